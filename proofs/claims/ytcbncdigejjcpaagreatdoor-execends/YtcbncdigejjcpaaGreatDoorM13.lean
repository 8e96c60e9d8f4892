/- VBase. -/
import Derived.WalkLawsBesides
import Derived.OneCell
import Derived.Lib.AppendStr
import Derived.Lib.SlBytesConst
import Derived.Lib.ConvBytes
import Derived.Laws.BitsAllLaws
import Derived.Deep.RegionLaw
import Derived.Test.YtcbncdigejjcpaaGreatDoorM09
import Derived.Test.YtcbncdigejjcpaaGreatDoorM07
namespace Go.Proofs.YtcbncdigejjcpaaGreatDoor
open Go.RowKit
open Crc

/-- a row of pairs -/
def Prs (w : World) (p : Option Addr) (l : List (Nm × Nm)) : Prop := l ≠ [] → ∃ b o, p = some ⟨b, o, none⟩ ∧ ∀ i (h : i < l.length), w.cell? ⟨b, o + i * 2, none⟩ = some (txt l[i].1) ∧ w.cell? ⟨b, o + i * 2 + 1, none⟩ = some (txt l[i].2)
theorem Prs.below {w w' : World} {p : Option Addr} {l : List (Nm × Nm)} (h : Prs w p l) (k : Below w.heap.size w w') : Prs w' p l := fun hne => by
  obtain ⟨b, o, rfl, hc⟩ := h hne
  exact ⟨b, o, rfl, fun i hi => ⟨cell_turn (hc i hi).1 (k.block b (block_lt_of_cell (hc i hi).1)), cell_turn (hc i hi).2 (k.block b (block_lt_of_cell (hc i hi).1))⟩⟩
structure Rp (w : World) (p : Option Addr) (c : Nat) (l : List (Nm × Nm)) : Prop where
  prs : Prs w p l
  nil : p = none → c = 0
  cap : l.length ≤ c
theorem Rp.below {w w' : World} {p : Option Addr} {c : Nat} {l : List (Nm × Nm)} (h : Rp w p c l) (k : Below w.heap.size w w') : Rp w' p c l := ⟨h.prs.below k, h.nil, h.cap⟩
theorem Rp.nilRow (w : World) : Rp w none 0 [] := ⟨fun h => absurd rfl h, fun _ => rfl, Nat.le_refl _⟩
/-- a value's cells -/
abbrev vcs (m : Vl) (pp : Option Addr) (pc : Nat) (ip : Option Addr) (ic : Nat) : Array Value := #[.int .i64 m.kind, txt m.text, .slice pp m.pairs.length pc, .slice ip m.items.length ic, .int .i64 m.px, .int .i64 m.py]
abbrev vv (m : Vl) (pp : Option Addr) (pc : Nat) (ip : Option Addr) (ic : Nat) : Value := .agg (vcs m pp pc ip ic)
abbrev vob (m : Vl) (pp : Option Addr) (pc : Nat) (ip : Option Addr) (ic : Nat) : Obj := .cells (vcs m pp pc ip ic) 49
/-- what it points to -/
structure VI (w : World) (m : Vl) (pp : Option Addr) (pc : Nat) (ip : Option Addr) (ic : Nat) : Prop where
  pairs : Rp w pp pc m.pairs
  items : Rd w ip ic m.items
theorem VI.below {w w' : World} {m : Vl} {pp : Option Addr} {pc : Nat} {ip : Option Addr} {ic : Nat} (h : VI w m pp pc ip ic) (k : Below w.heap.size w w') : VI w' m pp pc ip ic := ⟨h.pairs.below k, h.items.below k⟩
theorem VI.zero (w : World) : VI w zeroV none 0 none 0 := ⟨Rp.nilRow w, Rd.nilRow w⟩
theorem infoV (c : Array Value) (h : c.size = 6) : (Tryz.prog.info? 49).map (·.size) = some c.size := by
  rw [h]; kernel_rfl
theorem val_facts {w : World} {b : Nat} {c0 c1 c2 c3 c4 c5 : Value} (h : w.heap[b]? = some (.cells #[c0, c1, c2, c3, c4, c5] 49 (0, 0))) :
    w.cell? ⟨b, 0, none⟩ = some c0 ∧ w.cell? ⟨b, 1, none⟩ = some c1 ∧ w.cell? ⟨b, 2, none⟩ = some c2 ∧ w.cell? ⟨b, 3, none⟩ = some c3 ∧ w.cell? ⟨b, 4, none⟩ = some c4 ∧ w.cell? ⟨b, 5, none⟩ = some c5 :=
  ⟨cell_of_row w b 0 _ _ _ h, cell_of_row w b 1 _ _ _ h, cell_of_row w b 2 _ _ _ h, cell_of_row w b 3 _ _ _ h, cell_of_row w b 4 _ _ _ h, cell_of_row w b 5 _ _ _ h⟩
theorem val_frozen {w : World} {b : Nat} {c0 c1 c2 c3 c4 c5 : Value} (h : w.heap[b]? = some (.cells #[c0, c1, c2, c3, c4, c5] 49 (0, 0))) :
    w.frozen? ⟨b, 0, none⟩ = false ∧ w.frozen? ⟨b, 1, none⟩ = false ∧ w.frozen? ⟨b, 2, none⟩ = false ∧ w.frozen? ⟨b, 3, none⟩ = false ∧ w.frozen? ⟨b, 4, none⟩ = false ∧ w.frozen? ⟨b, 5, none⟩ = false :=
  ⟨frozen_of_row w b 0 _ _ h, frozen_of_row w b 1 _ _ h, frozen_of_row w b 2 _ _ h, frozen_of_row w b 3 _ _ h, frozen_of_row w b 4 _ _ h, frozen_of_row w b 5 _ _ h⟩
theorem val_new (w : World) (m : Vl) (pp : Option Addr) (pc : Nat) (ip : Option Addr) (ic : Nat) : (w.alloc (vob m pp pc ip ic)).heap[w.heap.size]? = some (.cells (vcs m pp pc ip ic) 49 (0, 0)) := heap_alloc_new w _
theorem ret_val {fn : Func} {p : Tmp} (h : fn.results = #[.cell p 49]) {tmps : Array Value} {w : World} {b : Nat} {c0 c1 c2 c3 c4 c5 : Value} (hp : tmps.getD p undef = .pointer (some ⟨b, 0, none⟩)) (hB : w.heap[b]? = some (.cells #[c0, c1, c2, c3, c4, c5] 49 (0, 0))) :
    (results fn tmps).run Tryz.prog w = .ok (.agg #[c0, c1, c2, c3, c4, c5]) w :=
  results_cell_row h tmps w b 49 #[c0, c1, c2, c3, c4, c5] (0, 0) _ hp hB Tryz.underlying49 rfl (infoV _ rfl)
theorem app_ba (a b : List UInt8) : (⟨a.toArray⟩ ++ ⟨b.toArray⟩ : ByteArray) = ⟨(a ++ b).toArray⟩ := by
  apply ByteArray.ext
  simp [ByteArray.data_append]

open Classical in
noncomputable def rtB (x y : Int) : Bool := decide (rtP x y)
open Classical in
theorem rtB_iff {x y : Int} : rtB x y = true ↔ rtP x y := by unfold rtB; exact decide_eq_true_iff
abbrev pv (x y : Int) : Value := .agg #[.int .i64 x, .int .i64 y]
abbrev pc (x y : Int) : Obj := .cells #[.int .i64 x, .int .i64 y] 47
theorem rtv1 {t : Nm} (h : t.length ≤ 4096) : RtV ⟨1, t, [], [], 0, 0⟩ := RtV.mk (fun h => absurd rfl h) (fun _ => rfl) (fun _ _ => rfl) (fun _ => ⟨rfl, rfl⟩) (show 1 ≤ (1 : Int) ∧ (1 : Int) ≤ 5 by decide) (fun _ => h) (fun h => absurd h (show (1 : Int) ≠ 2 by decide)) (fun h => absurd h (show (1 : Int) ≠ 3 by decide)) (fun h => absurd h (show (1 : Int) ≠ 4 by decide)) (fun h => absurd h (show (1 : Int) ≠ 5 by decide))
theorem rtv2 {ps : List (Nm × Nm)} (h : Fits (ps.map (·.1)) ∧ Ris (ps.map (·.1)) ∧ Fits (ps.map (·.2))) : RtV ⟨2, [], ps, [], 0, 0⟩ := RtV.mk (fun _ => rfl) (fun h => absurd rfl h) (fun _ _ => rfl) (fun _ => ⟨rfl, rfl⟩) (show 1 ≤ (2 : Int) ∧ (2 : Int) ≤ 5 by decide) (fun h => absurd h (show (2 : Int) ≠ 1 by decide)) (fun _ => h) (fun h => absurd h (show (2 : Int) ≠ 3 by decide)) (fun h => absurd h (show (2 : Int) ≠ 4 by decide)) (fun h => absurd h (show (2 : Int) ≠ 5 by decide))
theorem rtv3 {is : List Nm} (h : Fits is) : RtV ⟨3, [], [], is, 0, 0⟩ := RtV.mk (fun _ => rfl) (fun _ => rfl) (fun h _ => absurd rfl h) (fun _ => ⟨rfl, rfl⟩) (show 1 ≤ (3 : Int) ∧ (3 : Int) ≤ 5 by decide) (fun h => absurd h (show (3 : Int) ≠ 1 by decide)) (fun h => absurd h (show (3 : Int) ≠ 2 by decide)) (fun _ => h) (fun h => absurd h (show (3 : Int) ≠ 4 by decide)) (fun h => absurd h (show (3 : Int) ≠ 5 by decide))
theorem rtv4 {is : List Nm} (h : Fits is ∧ Ris is) : RtV ⟨4, [], [], is, 0, 0⟩ := RtV.mk (fun _ => rfl) (fun _ => rfl) (fun _ h => absurd rfl h) (fun _ => ⟨rfl, rfl⟩) (show 1 ≤ (4 : Int) ∧ (4 : Int) ≤ 5 by decide) (fun h => absurd h (show (4 : Int) ≠ 1 by decide)) (fun h => absurd h (show (4 : Int) ≠ 2 by decide)) (fun h => absurd h (show (4 : Int) ≠ 3 by decide)) (fun _ => h) (fun h => absurd h (show (4 : Int) ≠ 5 by decide))
theorem rtv5 {x y : Int} (h : rtP x y) : RtV ⟨5, [], [], [], x, y⟩ := RtV.mk (fun _ => rfl) (fun _ => rfl) (fun _ _ => rfl) (fun h => absurd rfl h) (show 1 ≤ (5 : Int) ∧ (5 : Int) ≤ 5 by decide) (fun h => absurd h (show (5 : Int) ≠ 1 by decide)) (fun h => absurd h (show (5 : Int) ≠ 2 by decide)) (fun h => absurd h (show (5 : Int) ≠ 3 by decide)) (fun h => absurd h (show (5 : Int) ≠ 4 by decide)) (fun _ => h)
theorem al_two (w : World) (a b : Obj) : Below w.heap.size w ((w.alloc a).alloc b) ∧ ((w.alloc a).alloc b).heap[w.heap.size]? = some a ∧ ((w.alloc a).alloc b).heap[w.heap.size + 1]? = some b ∧ ((w.alloc a).alloc b).heap.size = w.heap.size + 2 := by
  refine ⟨(below_alloc w a).trans ((below_alloc _ b).mono (by simp)), ?_, ?_, by simp⟩
  · rw [heap_alloc_old _ _ (by simp)]; exact heap_alloc_new w a
  · have := heap_alloc_new (w.alloc a) b
    rwa [show (w.alloc a).heap.size = w.heap.size + 1 by simp] at this
theorem pt_cells {w : World} {b : Nat} {x y : Value} (h : w.heap[b]? = some (.cells #[x, y] 47 (0, 0))) :
    (w.cell? ⟨b, 0, none⟩ = some x ∧ w.cell? ⟨b, 1, none⟩ = some y) ∧ w.frozen? ⟨b, 0, none⟩ = false ∧ w.frozen? ⟨b, 1, none⟩ = false :=
  ⟨⟨cell_of_row w b 0 _ _ _ h, cell_of_row w b 1 _ _ _ h⟩, frozen_of_row w b 0 _ _ h, frozen_of_row w b 1 _ _ h⟩

theorem ret_int {k : IntKind} {a b : Int} (h : a = b) : Ending.returned (.int k a) = .returned (.int k b) := by rw [h]
theorem xor16 (a b : BitVec 16) : bits BinOp.xor IntKind.u16 (a.toNat : Int) (b.toNat : Int) = ((a ^^^ b).toNat : Int) := by
  rw [u16_xor_nat _ _ a.isLt b.isLt, BitVec.toNat_xor]
/-- a slice's bytes, read from memory; whatever the address of an empty one -/
def Bts (w : World) (a : Option Addr) (l : List (BitVec 8)) : Prop :=
  l.length ≤ 9223372036854775807 ∧ (l ≠ [] → ∃ b off, a = some ⟨b, off, none⟩ ∧ ∀ j, j < l.length → w.cell? ⟨b, off + j, none⟩ = some (.int .u8 ((l.getD j 0#8).toNat : Int)))

theorem take_snoc (l : List (BitVec 8)) (k : Nat) (h : k < l.length) : l.take (k + 1) = l.take k ++ [l.getD k 0#8] := by
  rw [List.take_succ_eq_append_getElem h]
  simp [List.getD, h]
theorem more_snoc (c : BitVec 16) (l : List (BitVec 8)) (k : Nat) (h : k < l.length) : more c (l.take (k + 1)) = Crc.step (more c (l.take k)) (l.getD k 0#8) := by
  rw [take_snoc l k h, more_append]
  rfl

/-- bytes in memory -/
def Byts (w : World) (a : Option Addr) (l : Nm) : Prop := Bts w a (l.map UInt8.toBitVec)
theorem info5 : (Tryz.prog.info? 5).map (fun i => (i.zero, i.size, i.bytes)) = some (some (.int .u8 0), 1, 1) := by kernel_rfl
/-- bytes under way, in a row of the call's own -/
structure Txt (B : Nat) (w1 : World) (W : World) (v : Value) (T : List UInt8) : Prop where
  own : W.ownsRow B 5 1 v T.length (Lib.byteCells T)
  bel : Below B w1 W
  size : B ≤ W.heap.size
theorem Txt.go {B : Nat} {w1 W W' : World} {v : Value} {T : List UInt8} (h : Txt B w1 W v T) (hb : Below W.heap.size W W') : Txt B w1 W' v T := ⟨owns_below h.own hb, h.bel.trans (hb.mono h.size), Nat.le_trans h.size hb.size⟩
theorem Txt.shape {B : Nat} {w1 W : World} {v : Value} {T : List UInt8} (h : Txt B w1 W v T) : ∃ q d, v = .slice q T.length d := by
  rcases h.own.2 with ⟨rfl, h0⟩ | ⟨g, cap, cur, rfl, _⟩
  · exact ⟨none, 0, by rw [h0]⟩
  · exact ⟨_, cap, rfl⟩
/-- a value in its block, and what it points to -/
theorem box_kept {w : World} {m : Vl} {pp : Option Addr} {pc' : Nat} {ip : Option Addr} {ic : Nat} {W : World} (h : Below (w.heap.size + 1) (w.alloc (vob m pp pc' ip ic)) W) : W.heap[w.heap.size]? = some (.cells (vcs m pp pc' ip ic) 49 (0, 0)) := (h.block w.heap.size (by omega)).trans (val_new w m pp pc' ip ic)
theorem box_below {w : World} {o : Obj} {W : World} (h : Below (w.heap.size + 1) (w.alloc o) W) : Below w.heap.size w W := (below_alloc w o).trans (h.mono (by omega))

theorem ownsRow_base {W : World} {B B' : Nat} {e : TypeId} {size : Nat} {v : Value} {n : Nat} {xs : List Value} (h : W.ownsRow B' e size v n xs) (hb : B ≤ B') : W.ownsRow B e size v n xs := by
  refine ⟨h.1, ?_⟩
  rcases h.2 with h | ⟨g, cap, cur, h1, h2, h3⟩
  · exact .inl h
  · exact .inr ⟨g, cap, cur, h1, Nat.le_trans hb h2, h3⟩

theorem tx_len (s : Nm) : (tx s).length = s.length + 2 := by simp [tx, two]
theorem flat_le {l : List Nm} (h : ∀ x ∈ l, x.length ≤ 1024) : ∀ k, ((l.take k).flatMap tx).length ≤ 1026 * k
  | 0 => by simp
  | k + 1 => by
    have ih := flat_le h k
    by_cases hk : k < l.length
    · have e : (l.take (k + 1)).flatMap tx = (l.take k).flatMap tx ++ tx l[k] := by
        rw [List.take_succ_eq_append_getElem hk, List.flatMap_append, List.flatMap_cons, List.flatMap_nil, List.append_nil]
      have := h _ (List.getElem_mem hk)
      rw [e, List.length_append, tx_len]
      omega
    · rw [List.take_of_length_le (by omega)]
      rw [List.take_of_length_le (by omega)] at ih
      omega
theorem flat_take_succ {l : List (Nm × Nm)} {i : Nat} (h : i < l.length) : (flat (l.take (i + 1))).flatMap tx = (flat (l.take i)).flatMap tx ++ tx l[i].1 ++ tx l[i].2 := by
  have e : flat (l.take i ++ [l[i]]) = flat (l.take i) ++ [l[i].1, l[i].2] := by unfold flat; rw [List.flatMap_append]; rfl
  rw [List.take_succ_eq_append_getElem h, e, List.flatMap_append]
  show _ ++ (tx _ ++ (tx _ ++ [])) = _
  simp only [List.append_nil, List.append_assoc]
theorem flat_le2 {l : List (Nm × Nm)} (h1 : ∀ x ∈ l.map (·.1), x.length ≤ 1024) (h2 : ∀ x ∈ l.map (·.2), x.length ≤ 1024) : ∀ k, k ≤ l.length → ((flat (l.take k)).flatMap tx).length ≤ 2052 * k
  | 0, _ => by simp [flat]
  | k + 1, hk => by
    have ih := flat_le2 h1 h2 k (by omega)
    have hk' : k < l.length := by omega
    have a := h1 _ (List.mem_map_of_mem (f := (·.1)) (List.getElem_mem hk'))
    have b := h2 _ (List.mem_map_of_mem (f := (·.2)) (List.getElem_mem hk'))
    rw [flat_take_succ hk', List.length_append, List.length_append, tx_len, tx_len]
    omega
/-- what Dump tells -/
noncomputable def dumpS (m : Vl) : Nm := if rightB m = true then dumpV m else []
theorem owns_string {B : Nat} {W : World} {v : Value} {T : List UInt8} (h : W.ownsRow B 5 1 v T.length (Lib.byteCells T)) : (convert 104 9 v).run Tryz.prog W = .ok (.string ⟨T.toArray⟩) W := by
  rcases h.2 with ⟨rfl, h0⟩ | ⟨g, cap, cur, rfl, _⟩
  · rw [List.length_eq_zero_iff.1 h0]
    exact run_convert_bytes_nil W 104 5 Tryz.underlying104 Tryz.underlying5 0 0 9 Tryz.underlying9
  · exact run_convert_bytes_back (P := Tryz.prog) W 104 9 5 ⟨g, 0, none⟩ cap T Tryz.underlying104 Tryz.underlying5 Tryz.underlying9 (fun j hj => World.ownsRow.cells h (g := g) rfl j _ (by simp [Lib.byteCells, hj]))
theorem own_byts {B : Nat} {W : World} {q : Option Addr} {n d : Nat} {T : Nm} (h : W.ownsRow B 5 1 (.slice q n d) T.length (Lib.byteCells T)) (hl : T.length ≤ 9223372036854775807) : Byts W q T := by
  refine ⟨by simpa using hl, fun hne => ?_⟩
  rcases h.2 with ⟨h1, h0⟩ | ⟨g, cap, cur, h1, _⟩
  · exact absurd (by rw [List.length_eq_zero_iff.1 h0]; rfl) hne
  · injection h1 with e1 e2 e3
    subst e1 e2 e3
    refine ⟨g, 0, rfl, fun j hj => ?_⟩
    have hj' : j < T.length := by simpa using hj
    have := World.ownsRow.cells h (g := g) rfl j (.int .u8 (T[j].toNat : Int)) (by simp [Lib.byteCells, hj'])
    rw [Go.WideShapes.add_plain] at this
    rw [this]
    simp [List.getD, hj']
theorem body_max {m : Vl} (h : RtV m) : (bodyV m).length ≤ 1000000 := by
  obtain ⟨k, t, ps, is, x, y⟩ := m
  obtain ⟨q1, q2, q3, q5, kk, f1, f2, f3, f4, f5⟩ := h
  dsimp only at *
  unfold bodyV inner
  rw [List.length_cons]
  dsimp only
  split
  · rename_i c; have := f1 c; rw [tx_len]; omega
  · split
    · rename_i c1 c
      obtain ⟨⟨a1, a2, a3⟩, _, ⟨b1, _, _⟩⟩ := f2 c
      have := flat_le2 a1 b1 ps.length (Nat.le_refl _)
      rw [List.take_length] at this
      simp only [List.length_map] at a3
      rw [List.length_append, two_len]; omega
    · split
      · show 8 + 1 ≤ _; omega
      · rename_i c1 c2 c5
        obtain ⟨a1, a2, a3⟩ : Fits is := by
          rcases (show k = 3 ∨ k = 4 by omega) with c | c
          · exact f3 c
          · exact (f4 c).1
        have := flat_le a1 is.length
        rw [List.take_length] at this
        rw [List.length_append, two_len]; omega

def typeV (k : Int) : Nm := if k = 1 then [115, 116, 114, 105, 110, 103] else if k = 2 then [104, 97, 115, 104] else if k = 3 then [108, 105, 115, 116] else if k = 4 then [115, 101, 116] else if k = 5 then [112, 111, 105, 110, 116] else [110, 111, 110, 101]
theorem dumpS_max (m : Vl) : (dumpS m).length ≤ 1000002 := by
  unfold dumpS
  split
  · rename_i h
    have := body_max (rightB_iff.1 h)
    rw [dump_len]
    omega
  · simp
/-- a value laid over another one, cell by cell -/
theorem set_six {B : Nat} {w W : World} {b : Nat} {c0 c1 c2 c3 c4 c5 v0 v1 v2 v3 v4 v5 : Value} (h : W.heap[b]? = some (.cells #[c0, c1, c2, c3, c4, c5] 49 (0, 0))) (hW : Below B w W) (hb : B ≤ b) :
    ((((((W.setCell ⟨b, 0, none⟩ v0).setCell ⟨b, 1, none⟩ v1).setCell ⟨b, 2, none⟩ v2).setCell ⟨b, 3, none⟩ v3).setCell ⟨b, 4, none⟩ v4).setCell ⟨b, 5, none⟩ v5).heap[b]? = some (.cells #[v0, v1, v2, v3, v4, v5] 49 (0, 0)) ∧ Below B w ((((((W.setCell ⟨b, 0, none⟩ v0).setCell ⟨b, 1, none⟩ v1).setCell ⟨b, 2, none⟩ v2).setCell ⟨b, 3, none⟩ v3).setCell ⟨b, 4, none⟩ v4).setCell ⟨b, 5, none⟩ v5) :=
  ⟨heap_setCell_same _ b 5 _ _ _ (heap_setCell_same _ b 4 _ _ _ (heap_setCell_same _ b 3 _ _ _ (heap_setCell_same _ b 2 _ _ _ (heap_setCell_same _ b 1 _ _ _ (heap_setCell_same _ b 0 _ _ _ h))))),
    (((((hW.setCell (p := ⟨b, 0, none⟩) (by simpa using hb) _).setCell (p := ⟨b, 1, none⟩) (by simpa using hb) _).setCell (p := ⟨b, 2, none⟩) (by simpa using hb) _).setCell (p := ⟨b, 3, none⟩) (by simpa using hb) _).setCell (p := ⟨b, 4, none⟩) (by simpa using hb) _).setCell (p := ⟨b, 5, none⟩) (by simpa using hb) _⟩
theorem own_set {W : World} {B : Nat} {v : Value} {l : Row} (h : Own B W v l) (b k : Nat) (x : Value) (hb : b < B) : Own B (W.setCell ⟨b, k, none⟩ x) v l := by
  refine ⟨h.1, ?_⟩
  rcases h.2 with h | ⟨g, cap, cur, h1, h2, h3, h4⟩
  · exact .inl h
  · exact .inr ⟨g, cap, cur, h1, h2, (heap_setCell_other _ _ _ _ (by simp only; omega)).trans h3, h4⟩
theorem own_set6 {W : World} {B : Nat} {v : Value} {l : Row} (h : Own B W v l) (b : Nat) (hb : b < B) (v0 v1 v2 v3 v4 v5 : Value) : Own B ((((((W.setCell ⟨b, 0, none⟩ v0).setCell ⟨b, 1, none⟩ v1).setCell ⟨b, 2, none⟩ v2).setCell ⟨b, 3, none⟩ v3).setCell ⟨b, 4, none⟩ v4).setCell ⟨b, 5, none⟩ v5) v l :=
  own_set (own_set (own_set (own_set (own_set (own_set h b 0 v0 hb) b 1 v1 hb) b 2 v2 hb) b 3 v3 hb) b 4 v4 hb) b 5 v5 hb

def pcs (l : List (Nm × Nm)) : List Value := l.flatMap fun p => [txt p.1, txt p.2]
theorem pcs_len (l : List (Nm × Nm)) : (pcs l).length = l.length * 2 := by
  induction l with
  | nil => rfl
  | cons p l ih => show ([txt p.1, txt p.2] ++ pcs l).length = _; simp [ih]; omega
theorem pcs_at : ∀ (l : List (Nm × Nm)) (i : Nat) (h : i < l.length), (pcs l)[i * 2]? = some (txt l[i].1) ∧ (pcs l)[i * 2 + 1]? = some (txt l[i].2)
  | p :: l, 0, _ => ⟨rfl, rfl⟩
  | p :: l, i + 1, h => by
    have := pcs_at l i (by simpa using h)
    have e : pcs (p :: l) = txt p.1 :: txt p.2 :: pcs l := rfl
    rw [e, show (i + 1) * 2 = i * 2 + 1 + 1 by omega, List.getElem?_cons_succ, List.getElem?_cons_succ, List.getElem?_cons_succ, List.getElem?_cons_succ]
    simpa using this
abbrev OwnP (B : Nat) (w : World) (v : Value) (l : List (Nm × Nm)) : Prop := w.ownsRow B 102 2 v l.length (pcs l)
theorem infoP : (Tryz.prog.info? 102).map (fun i => (i.zero, i.size, i.bytes)) = some (some (.agg #[.string ⟨#[]⟩, .string ⟨#[]⟩]), 2, 32) := by kernel_rfl
theorem OwnP.shape {B : Nat} {w : World} {v : Value} {l : List (Nm × Nm)} (h : OwnP B w v l) : ∃ q d, v = .slice q l.length d := by
  rcases h.2 with ⟨rfl, h0⟩ | ⟨g, cap, cur, rfl, _⟩
  · exact ⟨none, 0, by rw [h0]⟩
  · exact ⟨_, cap, rfl⟩
theorem OwnP.rp {B : Nat} {w : World} {q : Option Addr} {n d : Nat} {l : List (Nm × Nm)} (h : OwnP B w (.slice q n d) l) : Rp w q d l := by
  rcases h.2 with ⟨h1, h0⟩ | ⟨g, cap, cur, h1, h2, h3, h4, _⟩
  · injection h1 with e1 e2 e3
    subst e1 e2 e3
    rw [List.length_eq_zero_iff.1 h0]
    exact Rp.nilRow w
  · injection h1 with e1 e2 e3
    subst e1 e2 e3
    refine ⟨fun _ => ⟨g, 0, rfl, fun i hi => ?_⟩, (fun h => by cases h), h4⟩
    have c0 := World.ownsRow.cells h (g := g) rfl (i * 2) _ (pcs_at l i hi).1
    have c1 := World.ownsRow.cells h (g := g) rfl (i * 2 + 1) _ (pcs_at l i hi).2
    rw [Go.WideShapes.add_plain] at c0 c1
    exact ⟨c0, c1⟩
theorem OwnP.set {W : World} {B : Nat} {v : Value} {l : List (Nm × Nm)} (h : OwnP B W v l) (b k : Nat) (x : Value) (hb : b < B) : OwnP B (W.setCell ⟨b, k, none⟩ x) v l := by
  refine ⟨h.1, ?_⟩
  rcases h.2 with h | ⟨g, cap, cur, h1, h2, h3, h4⟩
  · exact .inl h
  · exact .inr ⟨g, cap, cur, h1, h2, (heap_setCell_other _ _ _ _ (by simp only; omega)).trans h3, h4⟩
theorem OwnP.set6 {W : World} {B : Nat} {v : Value} {l : List (Nm × Nm)} (h : OwnP B W v l) (b : Nat) (hb : b < B) (v0 v1 v2 v3 v4 v5 : Value) : OwnP B ((((((W.setCell ⟨b, 0, none⟩ v0).setCell ⟨b, 1, none⟩ v1).setCell ⟨b, 2, none⟩ v2).setCell ⟨b, 3, none⟩ v3).setCell ⟨b, 4, none⟩ v4).setCell ⟨b, 5, none⟩ v5) v l :=
  (((((h.set b 0 v0 hb).set b 1 v1 hb).set b 2 v2 hb).set b 3 v3 hb).set b 4 v4 hb).set b 5 v5 hb
theorem bytesWorld_below (w : World) (e : TypeId) (s : ByteArray) : Below w.heap.size w (Lib.bytesWorld w e s) :=
  ⟨rfl, rfl, rfl, by rw [Lib.bytesWorld_size]; omega, fun k hk => Lib.bytesWorld_at_old w e s k hk⟩
theorem bytesWorld_row (w : World) (e : TypeId) (l : Nm) (hl : l.length ≤ 9223372036854775807) : Byts (Lib.bytesWorld w e ⟨l.toArray⟩) (some ⟨w.heap.size, 0, none⟩) l := by
  refine ⟨by simpa using hl, fun _ => ⟨w.heap.size, 0, rfl, fun j hj => ?_⟩⟩
  have hj' : j < l.length := by simpa using hj
  rw [Nat.zero_add, Lib.bytesWorld_cell w e ⟨l.toArray⟩ j (by simpa [ByteArray.size] using hj')]
  simp [List.getD, hj']
open Classical in
noncomputable def fitsB (l : Row) : Bool := decide (Fits l)
open Classical in
theorem fitsB_no {l : Row} (h : ¬ Fits l) : fitsB l = false := by unfold fitsB; exact decide_eq_false h
open Classical in
theorem fitsB_iff {l : Row} : fitsB l = true ↔ Fits l := by unfold fitsB; exact decide_eq_true_iff
theorem ris_snoc {m : Row} {x : Nm} : Ris (m ++ [x]) ↔ Ris m ∧ ∀ y ∈ m, y < x := by
  unfold Ris
  rw [List.pairwise_append]
  simp
theorem ris_take {l : Row} {i : Nat} (h : i + 1 < l.length) (hr : Ris (l.take (i + 1))) (hlt : l[i] < l[i + 1]) : Ris (l.take (i + 1 + 1)) := by
  rw [List.take_succ_eq_append_getElem h, ris_snoc]
  refine ⟨hr, fun y hy => ?_⟩
  rw [List.take_succ_eq_append_getElem (by omega)] at hr hy
  rcases List.mem_append.1 hy with hy | hy
  · exact nm_lt_trans ((ris_snoc.1 hr).2 y hy) hlt
  · rw [List.mem_singleton.1 hy]; exact hlt
theorem ris_at {l : Row} (hr : Ris l) {i j : Nat} (hij : i < j) (hj : j < l.length) : l[i] < l[j] := (List.pairwise_iff_getElem.1 hr) i j (by omega) hj hij
theorem vl_ext {a b : Vl} : a = b ↔ a.kind = b.kind ∧ a.text = b.text ∧ a.pairs = b.pairs ∧ a.items = b.items ∧ a.px = b.px ∧ a.py = b.py := by
  obtain ⟨k, t, ps, is, x, y⟩ := a
  obtain ⟨k', t', ps', is', x', y'⟩ := b
  simp
open Classical in
noncomputable def risB (l : Row) : Bool := decide (Ris l)
open Classical in
theorem risB_yes {l : Row} (h : Ris l) : risB l = true := by unfold risB; exact decide_eq_true h
open Classical in
theorem risB_no {l : Row} (h : ¬ Ris l) : risB l = false := by unfold risB; exact decide_eq_false h
open Classical in
theorem risB_iff {l : Row} : risB l = true ↔ Ris l := by unfold risB; exact decide_eq_true_iff
def RtP (ps : List (Nm × Nm)) : Prop := Fits (ps.map (·.1)) ∧ Ris (ps.map (·.1)) ∧ Fits (ps.map (·.2))
open Classical in
noncomputable def rpB (ps : List (Nm × Nm)) : Bool := decide (RtP ps)
open Classical in
theorem rpB_no {ps : List (Nm × Nm)} (h : ¬ RtP ps) : rpB ps = false := by unfold rpB; exact decide_eq_false h
open Classical in
theorem rpB_iff {ps : List (Nm × Nm)} : rpB ps = true ↔ RtP ps := by unfold rpB; exact decide_eq_true_iff
/-- a value that can come in -/
structure Came (m : Vl) : Prop where
  pairs : m.pairs.length ≤ 140737488351232
  items : m.items.length ≤ 140737488351232
  text : m.text.length ≤ 140737488351232
  names : ∀ x ∈ m.pairs.map (·.1), x.length ≤ 140737488351232
  values : ∀ x ∈ m.pairs.map (·.2), x.length ≤ 140737488351232
  texts : ∀ x ∈ m.items, x.length ≤ 140737488351232
  bk : -9223372036854775808 ≤ m.kind ∧ m.kind ≤ 9223372036854775807
  bx : -9223372036854775808 ≤ m.px ∧ m.px ≤ 9223372036854775807
  bY : -9223372036854775808 ≤ m.py ∧ m.py ≤ 9223372036854775807
theorem right1 (t : Nm) (ps : List (Nm × Nm)) (is : List Nm) (x y : Int) : rightB ⟨1, t, ps, is, x, y⟩ = (decide (t.length ≤ 4096) && decide ((⟨0, [], ps, is, x, y⟩ : Vl) = zeroV)) := by
  rw [Bool.eq_iff_iff, rightB_iff, Bool.and_eq_true, decide_eq_true_iff, decide_eq_true_iff, vl_ext]
  constructor
  · intro h
    exact ⟨h.k1 rfl, rfl, rfl, h.pairs (by dsimp only; decide), h.items (by dsimp only; decide) (by dsimp only; decide), h.point (by dsimp only; decide)⟩
  · rintro ⟨h, -, -, hp, hi, hx, hy⟩
    simp only [zeroV] at hp hi hx hy
    subst hp hi hx hy
    exact rtv1 h
theorem right2 (t : Nm) (ps : List (Nm × Nm)) (is : List Nm) (x y : Int) : rightB ⟨2, t, ps, is, x, y⟩ = (rpB ps && decide ((⟨0, t, [], is, x, y⟩ : Vl) = zeroV)) := by
  rw [Bool.eq_iff_iff, rightB_iff, Bool.and_eq_true, rpB_iff, decide_eq_true_iff, vl_ext]
  constructor
  · intro h
    exact ⟨h.k2 rfl, rfl, h.text (by dsimp only; decide), rfl, h.items (by dsimp only; decide) (by dsimp only; decide), h.point (by dsimp only; decide)⟩
  · rintro ⟨h, -, ht, -, hi, hx, hy⟩
    simp only [zeroV] at ht hi hx hy
    subst ht hi hx hy
    exact rtv2 h
theorem right3 (t : Nm) (ps : List (Nm × Nm)) (is : List Nm) (x y : Int) : rightB ⟨3, t, ps, is, x, y⟩ = (fitsB is && decide ((⟨0, t, ps, [], x, y⟩ : Vl) = zeroV)) := by
  rw [Bool.eq_iff_iff, rightB_iff, Bool.and_eq_true, fitsB_iff, decide_eq_true_iff, vl_ext]
  constructor
  · intro h
    exact ⟨h.k3 rfl, rfl, h.text (by dsimp only; decide), h.pairs (by dsimp only; decide), rfl, h.point (by dsimp only; decide)⟩
  · rintro ⟨h, -, ht, hp, -, hx, hy⟩
    simp only [zeroV] at ht hp hx hy
    subst ht hp hx hy
    exact rtv3 h
theorem right4 (t : Nm) (ps : List (Nm × Nm)) (is : List Nm) (x y : Int) : rightB ⟨4, t, ps, is, x, y⟩ = (risB is && (fitsB is && decide ((⟨0, t, ps, [], x, y⟩ : Vl) = zeroV))) := by
  rw [Bool.eq_iff_iff, rightB_iff, Bool.and_eq_true, Bool.and_eq_true, fitsB_iff, risB_iff, decide_eq_true_iff, vl_ext]
  constructor
  · intro h
    exact ⟨(h.k4 rfl).2, (h.k4 rfl).1, rfl, h.text (by dsimp only; decide), h.pairs (by dsimp only; decide), rfl, h.point (by dsimp only; decide)⟩
  · rintro ⟨hr, h, -, ht, hp, -, hx, hy⟩
    simp only [zeroV] at ht hp hx hy
    subst ht hp hx hy
    exact rtv4 ⟨h, hr⟩
theorem right5 (t : Nm) (ps : List (Nm × Nm)) (is : List Nm) (x y : Int) : rightB ⟨5, t, ps, is, x, y⟩ = (rtB x y && decide ((⟨0, t, ps, is, 0, 0⟩ : Vl) = zeroV)) := by
  rw [Bool.eq_iff_iff, rightB_iff, Bool.and_eq_true, rtB_iff, decide_eq_true_iff, vl_ext]
  constructor
  · intro h
    exact ⟨h.k5 rfl, rfl, h.text (by dsimp only; decide), h.pairs (by dsimp only; decide), h.items (by dsimp only; decide) (by dsimp only; decide), rfl, rfl⟩
  · rintro ⟨h, -, ht, hp, hi, -, -⟩
    simp only [zeroV] at ht hp hi
    subst ht hp hi
    exact rtv5 h
theorem right0 {m : Vl} (h1 : m.kind ≠ 1) (h2 : m.kind ≠ 2) (h3 : m.kind ≠ 3) (h4 : m.kind ≠ 4) (h5 : m.kind ≠ 5) : rightB m = false := rightB_not.2 fun h => by
  have := h.k
  omega

end Go.Proofs.YtcbncdigejjcpaaGreatDoor
