/- DEBase, DEPlace, DERoom, DEFind, DEAdd. -/
import Derived.Test.YtppgifaegnmciaaDoorM05
import Derived.Test.YtppgifaegnmciaaDoorM08
import Derived.Deep.RegionLaw
import Derived.WalkLawsBesides
import Derived.Test.YtppgifaegnmciaaDoorM09
import Derived.Laws.OwnMore
namespace Go.Proofs.YtppgifaegnmciaaDoor.Dc.DE
open Go.RowKit

/-- a room's cells -/
def flat (l : Its E8) : List Value := l.flatMap (fun x => txt x.1 :: x.2.cells.toList)
theorem flat_nil : flat [] = [] := rfl
theorem flat_cons (x : Nm × E8) (l : Its E8) : flat (x :: l) = txt x.1 :: (x.2.cells.toList ++ flat l) := rfl
theorem flat_app (a b : Its E8) : flat (a ++ b) = flat a ++ flat b := by simp [flat]
theorem flat_len : ∀ l : Its E8, (flat l).length = l.length * 9
  | [] => rfl
  | x :: l => by rw [flat_cons, List.length_cons, List.length_append, flat_len l, List.length_cons]; simp; omega
theorem flat_get : ∀ (l : Its E8) (i : Nat) (h : i < l.length), (flat l)[i * 9]? = some (txt l[i].1) ∧ ∀ j, j < 8 → (flat l)[i * 9 + 1 + j]? = l[i].2.cells[j]?
  | x :: l, 0, _ => by
    rw [flat_cons]
    refine ⟨rfl, fun j hj => ?_⟩
    show (txt x.1 :: (x.2.cells.toList ++ flat l))[0 * 9 + 1 + j]? = _
    rw [show 0 * 9 + 1 + j = j + 1 by omega, List.getElem?_cons_succ, List.getElem?_append_left (by simpa using hj)]
    simp
  | x :: l, i + 1, h => by
    obtain ⟨h1, h2⟩ := flat_get l i (by simpa using h)
    have e : ∀ m, (flat (x :: l))[9 + m]? = (flat l)[m]? := fun m => by
      rw [flat_cons, show 9 + m = (8 + m) + 1 by omega, List.getElem?_cons_succ, List.getElem?_append_right (by simp)]
      simp
    refine ⟨?_, fun j hj => ?_⟩
    · rw [show (i + 1) * 9 = 9 + i * 9 by omega, e]
      simpa using h1
    · rw [show (i + 1) * 9 + 1 + j = 9 + (i * 9 + 1 + j) by omega, e]
      simpa using h2 j hj
theorem cells_one (x : E8) : ∀ u ∈ x.cells.toList, u.oneCell' = true := by
  intro u hu
  simp only [List.mem_cons, List.not_mem_nil, or_false] at hu
  rcases hu with rfl | rfl | rfl | rfl | rfl | rfl | rfl | rfl <;> rfl
theorem flat_one (l : Its E8) : ∀ u ∈ flat l, u.oneCell' = true := by
  intro u hu
  simp only [flat, List.mem_flatMap] at hu
  obtain ⟨x, _, hx⟩ := hu
  rcases List.mem_cons.1 hx with rfl | hx
  · rfl
  · exact cells_one x.2 u hx
/-- no entry -/
def e80 : E8 := ⟨[], ⟨0, [], [], [], 0, 0⟩, none, 0, none, 0, 0⟩
/-- a room -/
abbrev Room (w : World) (u : Value) (l : Its E8) : Prop := w.ownsRow 0 73 9 u l.length (flat l)
theorem Room.nil (w : World) : Room w (.slice none 0 0) [] := World.ownsRow_nil w 0 _ _
theorem Room.shape {w : World} {u : Value} {l : Its E8} (h : Room w u l) : ∃ p c, u = .slice p l.length c := by
  rcases h.2 with ⟨rfl, h0⟩ | ⟨g, cap, cur, rfl, _⟩
  · exact ⟨none, 0, by rw [h0]⟩
  · exact ⟨_, _, rfl⟩
theorem Room.turn {w w' : World} {u : Value} {l : Its E8} (h : Room w u l) (hk : ∀ k, u.ownBlock = some k → w'.heap[k]? = w.heap[k]?) : Room w' u l := by
  refine ⟨h.1, ?_⟩
  rcases h.2 with h | ⟨g, cap, cur, rfl, h2, h3, h4⟩
  · exact .inl h
  · exact .inr ⟨g, cap, cur, rfl, h2, (hk g rfl).trans h3, h4⟩
theorem Room.lt {w : World} {u : Value} {l : Its E8} (h : Room w u l) {k : Nat} (hk : u.ownBlock = some k) : k < w.heap.size := (World.ownsRow.lt h k hk).2
/-- where its names and values lie -/
theorem Room.cells {w : World} {p : Option Addr} {n c : Nat} {l : Its E8} (h : Room w (.slice p n c) l) (i : Nat) (hi : i < l.length) : ∃ g, p = some ⟨g, 0, none⟩ ∧ ∀ j (hj : j < l.length), w.cell? ⟨g, j * 9, none⟩ = some (txt l[j].1) ∧ w.cell? ⟨g, j * 9 + 1, none⟩ = some (txt l[j].2.key) ∧ w.cell? ⟨g, j * 9 + 2, none⟩ = some (.int .i64 l[j].2.m.kind) ∧ w.cell? ⟨g, j * 9 + 3, none⟩ = some (txt l[j].2.m.text) ∧ w.cell? ⟨g, j * 9 + 4, none⟩ = some (.slice l[j].2.pp l[j].2.m.pairs.length l[j].2.pc) ∧ w.cell? ⟨g, j * 9 + 5, none⟩ = some (.slice l[j].2.ip l[j].2.m.items.length l[j].2.ic) ∧ w.cell? ⟨g, j * 9 + 6, none⟩ = some (.int .i64 l[j].2.m.px) ∧ w.cell? ⟨g, j * 9 + 7, none⟩ = some (.int .i64 l[j].2.m.py) ∧ w.cell? ⟨g, j * 9 + 8, none⟩ = some (.int .i64 l[j].2.ends) := by
  rcases h.2 with ⟨_, h0⟩ | ⟨g, cap, cur, e, _⟩
  · omega
  · injection e with e1 e2 e3
    subst e1
    refine ⟨g, rfl, fun j hj => ?_⟩
    obtain ⟨f1, f2⟩ := flat_get l j hj
    have key : ∀ m v, (flat l)[m]? = some v → w.cell? ⟨g, m, none⟩ = some v := fun m v e => by
      have := World.ownsRow.cells h (g := g) rfl _ _ e
      simpa only [Go.WideShapes.add_plain, Nat.zero_add] using this
    exact ⟨key _ _ f1, key _ _ (f2 0 (by decide)), key _ _ (f2 1 (by decide)), key _ _ (f2 2 (by decide)), key _ _ (f2 3 (by decide)), key _ _ (f2 4 (by decide)), key _ _ (f2 5 (by decide)), key _ _ (f2 6 (by decide)), key _ _ (f2 7 (by decide))⟩
/-- a table in block nb -/
def TabIs (w : World) (g : Tg) (e : Bool) (nb : Nat) (l : Tb E8) : Prop :=
  ∃ rv : Array Value, w.heap[nb]? = some (.cells rv 74 (0, 0)) ∧ rv.size = l.length ∧ g nb = some (.tab e) ∧
    ∀ i (hi : i < l.length), ∃ u, rv[i]? = some u ∧ Room w u l[i] ∧ ∀ k, u.ownBlock = some k → g k = some (.room e i)
theorem TabIs.turn {w w' : World} {g g' : Tg} {e : Bool} {nb : Nat} {l : Tb E8} (h : TabIs w g e nb l) (h1 : ∀ k, g k = some (.tab e) → g' k = some (.tab e) ∧ w'.heap[k]? = w.heap[k]?) (h2 : ∀ k i, g k = some (.room e i) → g' k = some (.room e i) ∧ w'.heap[k]? = w.heap[k]?) : TabIs w' g' e nb l := by
  obtain ⟨rv, a, b, c, d⟩ := h
  refine ⟨rv, (h1 nb c).2.trans a, b, (h1 nb c).1, fun i hi => ?_⟩
  obtain ⟨u, x, y, z⟩ := d i hi
  exact ⟨u, x, y.turn (fun k hk => (h2 k i (z k hk)).2), fun k hk => (h2 k i (z k hk)).1⟩
/-- a room's slice -/
theorem TabIs.room {w : World} {g : Tg} {e : Bool} {nb : Nat} {l : Tb E8} (h : TabIs w g e nb l) (i : Nat) (hi : i < l.length) : ∃ u, w.cell? ⟨nb, i, none⟩ = some u ∧ w.frozen? ⟨nb, i, none⟩ = false ∧ Room w u l[i] ∧ ∀ k, u.ownBlock = some k → g k = some (.room e i) := by
  obtain ⟨rv, a, _, _, d⟩ := h
  obtain ⟨u, x, y, z⟩ := d i hi
  exact ⟨u, by rw [cell_of_row w nb i _ _ _ a]; exact x, frozen_of_row w nb i _ _ a, y, z⟩
/-- a room is another one -/
theorem TabIs.set {w w' : World} {g g' : Tg} {e : Bool} {nb : Nat} {l : Tb E8} (h : TabIs w g e nb l) (i : Nat) (u : Value) (m : Its E8)
    (hn : ∀ rv, w.heap[nb]? = some (.cells rv 74 (0, 0)) → w'.heap[nb]? = some (.cells (rv.setIfInBounds i u) 74 (0, 0))) (hg : g' nb = g nb) (hu : Room w' u m) (hk : ∀ k, u.ownBlock = some k → g' k = some (.room e i))
    (ho : ∀ k j, j ≠ i → g k = some (.room e j) → g' k = some (.room e j) ∧ w'.heap[k]? = w.heap[k]?) : TabIs w' g' e nb (l.set i m) := by
  obtain ⟨rv, a, b, c, d⟩ := h
  refine ⟨_, hn rv a, by simpa using b, hg.trans c, fun j hj => ?_⟩
  rw [List.length_set] at hj
  by_cases hij : i = j
  · subst hij
    refine ⟨u, Array.getElem?_setIfInBounds_self_of_lt (by omega), ?_, hk⟩
    simpa using hu
  · obtain ⟨v, x, y, z⟩ := d j hj
    refine ⟨v, ?_, ?_, fun k hk => (ho k j (Ne.symm hij) (z k hk)).1⟩
    · rw [Array.getElem?_setIfInBounds_ne hij]; exact x
    · rw [List.getElem_set_ne hij]
      exact y.turn (fun k hk => (ho k j (Ne.symm hij) (z k hk)).2)
/-- the elder table, if there is one -/
def ElIs (w : World) (g : Tg) (ev : Value) (l : Tb E8) : Prop := (ev = .slice none 0 0 ∧ l = []) ∨ ∃ eb, ev = .slice (some ⟨eb, 0, none⟩) l.length l.length ∧ l ≠ [] ∧ TabIs w g true eb l
theorem ElIs.turn {w w' : World} {g g' : Tg} {ev : Value} {l : Tb E8} (h : ElIs w g ev l) (h1 : ∀ k, g k = some (.tab true) → g' k = some (.tab true) ∧ w'.heap[k]? = w.heap[k]?) (h2 : ∀ k i, g k = some (.room true i) → g' k = some (.room true i) ∧ w'.heap[k]? = w.heap[k]?) : ElIs w' g' ev l := by
  rcases h with h | ⟨eb, a, b, c⟩
  · exact .inl h
  · exact .inr ⟨eb, a, b, c.turn h1 h2⟩
/-- a dict's four cells -/
abbrev headC (nb : Nat) (ev : Value) (T : TM E8) (many : Nat) : Array Value := #[.slice (some ⟨nb, 0, none⟩) T.nw.length T.nw.length, ev, .int .i64 T.tk, .int .i64 many]
/-- a dict in block b -/
structure Lies (B : Nat) (w : World) (g : Tg) (b nb : Nat) (ev : Value) (T : TM E8) (many : Nat) : Prop where
  head : w.heap[b]? = some (.cells (headC nb ev T many) 63 (0, 0))
  tag : g b = some .dict
  nw : TabIs w g false nb T.nw
  el : ElIs w g ev T.el
  lt : ∀ k, g k ≠ none → k < w.heap.size ∧ B ≤ k
theorem Lies.turn {B : Nat} {w w' : World} {g : Tg} {b nb : Nat} {ev : Value} {T : TM E8} {many : Nat} (h : Lies B w g b nb ev T many) (hk : ∀ k, g k ≠ none → w'.heap[k]? = w.heap[k]?) (hs : w.heap.size ≤ w'.heap.size) : Lies B w' g b nb ev T many where
  head := (hk b (by rw [h.tag]; simp)).trans h.head
  tag := h.tag
  nw := h.nw.turn (fun k e => ⟨e, hk k (by rw [e]; simp)⟩) (fun k i e => ⟨e, hk k (by rw [e]; simp)⟩)
  el := h.el.turn (fun k e => ⟨e, hk k (by rw [e]; simp)⟩) (fun k i e => ⟨e, hk k (by rw [e]; simp)⟩)
  lt := fun k e => ⟨Nat.lt_of_lt_of_le (h.lt k e).1 hs, (h.lt k e).2⟩
theorem Lies.below {B : Nat} {w w' : World} {g : Tg} {b nb : Nat} {ev : Value} {T : TM E8} {many : Nat} (h : Lies B w g b nb ev T many) (k : Below w.heap.size w w') : Lies B w' g b nb ev T many := h.turn (fun i hi => k.block i (h.lt i hi).1) k.size
theorem Lies.cells {B : Nat} {w : World} {g : Tg} {b nb : Nat} {ev : Value} {T : TM E8} {many : Nat} (h : Lies B w g b nb ev T many) : w.cell? ⟨b, 0, none⟩ = some (.slice (some ⟨nb, 0, none⟩) T.nw.length T.nw.length) ∧ w.cell? ⟨b, 1, none⟩ = some ev ∧ w.cell? ⟨b, 2, none⟩ = some (.int .i64 T.tk) ∧ w.cell? ⟨b, 3, none⟩ = some (.int .i64 many) :=
  ⟨cell_of_row w b 0 _ _ _ h.head, cell_of_row w b 1 _ _ _ h.head, cell_of_row w b 2 _ _ _ h.head, cell_of_row w b 3 _ _ _ h.head⟩
theorem Lies.frozen {B : Nat} {w : World} {g : Tg} {b nb : Nat} {ev : Value} {T : TM E8} {many : Nat} (h : Lies B w g b nb ev T many) (i : Nat) : w.frozen? ⟨b, i, none⟩ = false := frozen_of_row w b i _ _ h.head

end Go.Proofs.YtppgifaegnmciaaDoor.Dc.DE

namespace Go.Proofs.YtppgifaegnmciaaDoor.Dc.DE
open Go.RowKit

set_option maxHeartbeats 1000000 in
set_option maxRecDepth 100000 in
/-- place -/
theorem place_any (u : Value) (l : Its E8) (n : Nm) (w : World) (h : Room w u l) (hl : l.length ≤ 9223372036854775807) :
    Calls Tryd.prog 47 #[u, txt n] w fun e w' => e = .returned (.int .i64 (plcI n l)) ∧ w' = w := by
  obtain ⟨p, c, rfl⟩ := h.shape
  have H := hid h
  clear h
  go_enter Tryd.func47, Tryd.ntmps47
  go_wp2
  go_loop [5, 8] (fun _ v8 => ∃ i : Nat, v8 = .int .i64 i ∧ i ≤ l.length ∧ Hid (∀ j (hj : j < l.length), j < i → l[j].1 ≠ n)) (fun _ v8 => l.length - (intOf v8).toNat)
  case atStart => exact ⟨0, rfl, Nat.zero_le _, fun j hj h => by omega⟩
  case round =>
    obtain ⟨i, rfl, hi, HN⟩ := hrel
    by_cases hlt : i < l.length
    · obtain ⟨g, rfl, hc⟩ := H.out.cells i hlt
      have x0 := (hc i hlt).1
      have hlz : (i : Int) < (l.length : Int) := by omega
      by_cases he : l[i].1 = n
      · have HP := hid (plcI_some (plc_at i hlt he HN.out))
        rw [he] at x0
        clear hc he
        go_wp2
        go_ret
        exact ⟨ret_int HP.out.symm, rfl⟩
      · have HE := hid he
        have hne : (l[i].1 == n) = false := by
          rw [beq_eq_false_iff_ne]
          exact he
        clear hc he
        go_wp2
        exact ⟨⟨i + 1, by go_num, by omega, fun j hj hji => by
          by_cases e : j = i
          · subst e; exact HE.out
          · exact HN.out j hj (by omega)⟩, by simp [intOf]; omega⟩
    · have HP := hid (plcI_none (plc_not (fun j hj => HN.out j hj (by omega))))
      go_wp2
      go_ret
      exact ⟨ret_int HP.out.symm, rfl⟩

end Go.Proofs.YtppgifaegnmciaaDoor.Dc.DE

namespace Go.Proofs.YtppgifaegnmciaaDoor.Dc.DE
open Go.RowKit

set_option maxHeartbeats 1000000 in
set_option maxRecDepth 100000 in
/-- room -/
theorem room_any (nb N : Nat) (n : Nm) (w : World) (ht : Tab w) (hg : 0 < w.heap.size) (h0 : 0 < N) (hN : N ≤ 1000000) (hn : n.length ≤ 140737488351232) :
    Calls Tryd.prog 46 #[.slice (some ⟨nb, 0, none⟩) N N, txt n] w fun e w' => e = .returned (.pointer (some ⟨nb, sumN n % N, none⟩)) ∧ Hid (Below w.heap.size w w') := by
  have kc := fun (w : World) (s : ByteArray) => Lib.run_convert_string_bytes (P := Tryd.prog) w 9 28 5 s Tryd.underlying9 Tryd.underlying28 Tryd.underlying5
  have HS := hid fun c => sum_of n c w ht hg (by omega)
  have HB := hid (bytesWorld_below w 5 ⟨n.toArray⟩)
  have hx := (Crc.more 0#16 (n.map UInt8.toBitVec)).isLt
  unfold sumN
  generalize (Crc.more 0#16 (n.map UInt8.toBitVec)).toNat = x at HS hx ⊢
  obtain ⟨k, hk⟩ : ∃ k, k = x % N := ⟨_, rfl⟩
  have hkN : k < N := by rw [hk]; exact Nat.mod_lt _ h0
  have hr : (x : Int) % (N : Int) = (k : Int) := by rw [hk]; simp
  have hrt : (x : Int).tmod (N : Int) = (k : Int) := by rw [Int.tmod_eq_emod_of_nonneg (by omega)]; exact hr
  rw [← hk]
  have hx' : (x : Int) ≤ 65535 := by omega
  have h0z : (0 : Int) < (N : Int) := by omega
  have hnz : ((N : Int) == 0) = false := by simpa using by omega
  have hkz : (k : Int) < (N : Int) := by omega
  clear ht hg hk
  go_enter Tryd.func46, Tryd.ntmps46
  go_wp2_with fail
  refine (HS.out _).mono ?_; rintro e w' ⟨rfl, rfl⟩
  go_wp2
  go_ret
  exact ⟨rfl, HB.out⟩

end Go.Proofs.YtppgifaegnmciaaDoor.Dc.DE

namespace Go.Proofs.YtppgifaegnmciaaDoor.Dc.DE
open Go.RowKit

/-- what calls lean on: the table of sums, below B -/
structure Env (B : Nat) (w : World) : Prop where
  tab : Tab w
  lt : 0 < B
  size : B ≤ w.heap.size
theorem Env.turn {B : Nat} {w w' : World} (h : Env B w) (hk : ∀ k, k < B → w'.heap[k]? = w.heap[k]?) (hs : w.heap.size ≤ w'.heap.size) : Env B w' :=
  ⟨fun i hi => cell_turn (h.tab i hi) (hk _ h.lt), h.lt, Nat.le_trans h.size hs⟩
theorem Env.below {B n : Nat} {w w' : World} (h : Env B w) (k : Below n w w') (hn : B ≤ n) : Env B w' := h.turn (fun i hi => k.block i (by omega)) k.size
theorem room_env {B : Nat} (nb N : Nat) (n : Nm) (w : World) (h : Env B w) (h0 : 0 < N) (hN : N ≤ 1000000) (hn : n.length ≤ 140737488351232) :
    Calls Tryd.prog 46 #[.slice (some ⟨nb, 0, none⟩) N N, txt n] w fun e w' => e = .returned (.pointer (some ⟨nb, sumN n % N, none⟩)) ∧ Hid (Below w.heap.size w w') :=
  room_any nb N n w h.tab (by have := h.lt; have := h.size; omega) h0 hN hn
/-- both tables are not too great -/
structure Fit (T : TM E8) : Prop where
  n0 : 0 < T.nw.length
  nN : T.nw.length ≤ 1000000
  eN : T.el.length ≤ 1000000
  rN : ∀ i (h : i < T.nw.length), T.nw[i].length ≤ 1000000
  rE : ∀ i (h : i < T.el.length), T.el[i].length ≤ 1000000
set_option maxHeartbeats 1000000 in
set_option maxRecDepth 100000 in
/-- find: in the newer table -/
theorem find_new {B : Nat} {w : World} {g : Tg} {b nb : Nat} {ev : Value} {T : TM E8} {many : Nat} (h : Lies B w g b nb ev T many) (hE : Env B w) (hF : Fit T) (n : Nm) (hn : n.length ≤ 140737488351232) (i : Nat) (hi : i < T.nw.length) (he : sumN n % T.nw.length = i) (k : Nat) (hk : plc n T.nw[i] = some k) :
    Calls Tryd.prog 32 #[.pointer (some ⟨b, 0, none⟩), txt n] w fun e w' => e = .returned (.tuple #[.pointer (some ⟨nb, i, none⟩), .int .i64 k]) ∧ Hid (Below w.heap.size w w') := by
  obtain ⟨c0, -⟩ := h.cells
  have HR := hid (room_env nb T.nw.length n w hE hF.n0 hF.nN hn)
  rw [he] at HR
  obtain ⟨u, hu, -, hru, -⟩ := h.nw.room i hi
  have hnb := h.lt nb (by obtain ⟨_, _, _, e, _⟩ := h.nw; rw [e]; simp)
  have HU := hid hu
  have HRU := hid hru
  have HL := hid hnb.1
  have HK := hid (plcI_some hk)
  have HFr := hid (hF.rN i hi)
  obtain ⟨p, c, rfl⟩ := hru.shape
  clear h hE hF hk he hu hru hnb
  go_enter Tryd.func32, Tryd.ntmps32
  go_wp2_with fail
  refine HR.out.mono ?_; rintro e w1 ⟨rfl, hb⟩
  have x0 := cell_turn HU.out (hb.out.block nb HL.out)
  have HP := hid (place_any _ _ n w1 (HRU.out.turn (fun k hk => hb.out.block k (HRU.out.lt hk))) (by have := HFr.out; omega))
  rw [HK.out] at HP
  go_wp2_with fail
  refine HP.out.mono ?_; rintro e w2 ⟨rfl, rfl⟩
  go_wp2
  go_ret2
  exact ⟨rfl, hb⟩
set_option maxHeartbeats 1000000 in
set_option maxRecDepth 100000 in
/-- find: not in the newer table, and there is no other -/
theorem find_one {B : Nat} {w : World} {g : Tg} {b nb : Nat} {T : TM E8} {many : Nat} (h : Lies B w g b nb (.slice none 0 0) T many) (hE : Env B w) (hF : Fit T) (n : Nm) (hn : n.length ≤ 140737488351232) (i : Nat) (hi : i < T.nw.length) (he : sumN n % T.nw.length = i) (hk : plc n T.nw[i] = none) :
    Calls Tryd.prog 32 #[.pointer (some ⟨b, 0, none⟩), txt n] w fun e w' => e = .returned (.tuple #[.pointer (some ⟨nb, i, none⟩), .int .i64 (-1)]) ∧ Hid (Below w.heap.size w w') := by
  obtain ⟨c0, c1, -⟩ := h.cells
  have HR := hid (room_env nb T.nw.length n w hE hF.n0 hF.nN hn)
  rw [he] at HR
  obtain ⟨u, hu, -, hru, -⟩ := h.nw.room i hi
  have hnb := h.lt nb (by obtain ⟨_, _, _, e, _⟩ := h.nw; rw [e]; simp)
  have HU := hid hu
  have HRU := hid hru
  have HL := hid hnb.1
  have HK := hid (plcI_none hk)
  have HFr := hid (hF.rN i hi)
  have HC1 := hid c1
  have HBL := hid (h.lt b (by rw [h.tag]; simp)).1
  obtain ⟨p, c, rfl⟩ := hru.shape
  clear h hE hF hk he hu hru hnb c1
  go_enter Tryd.func32, Tryd.ntmps32
  go_wp2_with fail
  refine HR.out.mono ?_; rintro e w1 ⟨rfl, hb⟩
  have x0 := cell_turn HU.out (hb.out.block nb HL.out)
  have x1 := cell_turn HC1.out (hb.out.block b HBL.out)
  have HP := hid (place_any _ _ n w1 (HRU.out.turn (fun k hk => hb.out.block k (HRU.out.lt hk))) (by have := HFr.out; omega))
  rw [HK.out] at HP
  go_wp2_with fail
  refine HP.out.mono ?_; rintro e w2 ⟨rfl, rfl⟩
  go_wp2
  go_ret2
  exact ⟨rfl, hb⟩
set_option maxHeartbeats 1000000 in
set_option maxRecDepth 100000 in
/-- find: not in the newer table; the elder one is looked at -/
theorem find_two {B : Nat} {w : World} {g : Tg} {b nb eb : Nat} {T : TM E8} {many : Nat} (h : Lies B w g b nb (.slice (some ⟨eb, 0, none⟩) T.el.length T.el.length) T many) (hT : TabIs w g true eb T.el) (hE : Env B w) (hF : Fit T) (n : Nm) (hn : n.length ≤ 140737488351232) (i : Nat) (hi : i < T.nw.length) (he : sumN n % T.nw.length = i) (hk : plc n T.nw[i] = none) (j : Nat) (hj : j < T.el.length) (hje : sumN n % T.el.length = j) :
    Calls Tryd.prog 32 #[.pointer (some ⟨b, 0, none⟩), txt n] w fun e w' => e = .returned (.tuple #[.pointer (some ⟨eb, j, none⟩), .int .i64 (plcI n T.el[j])]) ∧ Hid (Below w.heap.size w w') := by
  obtain ⟨c0, c1, -⟩ := h.cells
  have HR := hid (room_env nb T.nw.length n w hE hF.n0 hF.nN hn)
  rw [he] at HR
  obtain ⟨u, hu, -, hru, -⟩ := h.nw.room i hi
  have hnb := h.lt nb (by obtain ⟨_, _, _, e, _⟩ := h.nw; rw [e]; simp)
  have heb := h.lt eb (by obtain ⟨_, _, _, e, _⟩ := hT; rw [e]; simp)
  have HEB := hid heb.1
  obtain ⟨v, hv, -, hrv, -⟩ := hT.room j hj
  have HV := hid hv
  have HRV := hid hrv
  have HU := hid hu
  have HRU := hid hru
  have HL := hid hnb.1
  have HK := hid (plcI_none hk)
  have HFr := hid (hF.rN i hi)
  have HFe := hid (hF.rE j hj)
  have HC1 := hid c1
  have HBL := hid (h.lt b (by rw [h.tag]; simp)).1
  have HEN := hid hE
  have HT := hid (fun w1 (h : Env B w1) => room_env eb T.el.length n w1 h (by omega) hF.eN hn)
  rw [hje] at HT
  obtain ⟨p, c, rfl⟩ := hru.shape
  obtain ⟨q, d, rfl⟩ := hrv.shape
  have hpl := plcI_le n T.el[j]
  generalize hX : plcI n T.el[j] = X at *
  clear h hE hF hk he hu hru hnb c1 hv hrv heb hT hje
  go_enter Tryd.func32, Tryd.ntmps32
  go_wp2_with fail
  refine HR.out.mono ?_; rintro e w1 ⟨rfl, hb⟩
  have x0 := cell_turn HU.out (hb.out.block nb HL.out)
  have x1 := cell_turn HC1.out (hb.out.block b HBL.out)
  have HP := hid (place_any _ _ n w1 (HRU.out.turn (fun k hk => hb.out.block k (HRU.out.lt hk))) (by have := HFr.out; omega))
  rw [HK.out] at HP
  go_wp2_with fail
  refine HP.out.mono ?_; rintro e w2 ⟨rfl, rfl⟩
  go_wp2_with fail
  refine (HT.out _ (HEN.out.below hb.out HEN.out.size)).mono ?_; rintro e w3 ⟨rfl, hb2⟩
  have HB3 := hid (hb.out.trans (hb2.out.mono hb.out.size))
  have y0 := cell_turn HV.out (HB3.out.block eb HEB.out)
  have HP2 := hid (place_any _ _ n w3 (HRV.out.turn (fun k hk => HB3.out.block k (HRV.out.lt hk))) (by have := HFe.out; omega))
  rw [hX] at HP2
  clear hX
  go_wp2_with fail
  refine HP2.out.mono ?_; rintro e w4 ⟨rfl, rfl⟩
  go_wp2
  go_ret2
  exact ⟨rfl, HB3⟩

end Go.Proofs.YtppgifaegnmciaaDoor.Dc.DE

namespace Go.Proofs.YtppgifaegnmciaaDoor.Dc.DE
open Go.RowKit

theorem infoP : (Tryd.prog.info? 73).map (fun i => (i.zero, i.size, i.bytes)) = some (some (.agg #[.string ⟨#[]⟩, .string ⟨#[]⟩, .int .i64 0, .string ⟨#[]⟩, .slice none 0 0, .slice none 0 0, .int .i64 0, .int .i64 0, .int .i64 0]), 9, 128) := by kernel_rfl
/-- an append leaves a room where it was, or lays a new one -/
theorem push_where (w : World) (u : Value) (n : Nat) (xs : List Value) (hown : w.ownsRow 0 73 9 u n xs) (a : Addr) (news : List Value) (hl : news.length = 9) (hnews : ∀ j u, news[j]? = some u → w.cell? (a.add j) = some u) (h1 : ∀ u ∈ news, u.oneCell' = true) (hn : n ≤ 1000000000) (u' : Value) (w' : World)
    (hrun : (Builtin.append_ #[74, 74] 74 #[u, .slice (some a) 1 1]).run Tryd.prog w = .ok u' w') : u'.ownBlock = u.ownBlock ∨ u'.ownBlock = some w.heap.size := by
  obtain ⟨i0, hi, hz0, hz1, hz2⟩ := info_parts infoP
  have hl' : news.length = 1 * i0.size := by rw [hz1, hl]
  rcases hown.2 with ⟨rfl, rfl⟩ | ⟨g, cap, cur, rfl, hbg, hg, hnc, hcm, hcs, htake⟩
  · have hr := run_append_nil (P := Tryd.prog) w 74 74 73 i0 _ Tryd.underlying74 hi hz0 a 1 1 news hl' hnews (by omega) (by omega) (by rw [hz2]; omega)
    rw [hr] at hrun
    injection hrun with hrun _
    rw [← hrun]
    exact .inr rfl
  · by_cases hroom : n + 1 ≤ cap
    · have hr := run_append_room (P := Tryd.prog) w 74 74 73 i0 Tryd.underlying74 hi g n cap cur hg a 1 1 news hl' hnews h1 hroom (by rw [hl, hcs, hz1]; omega)
      rw [hr] at hrun
      injection hrun with hrun _
      rw [← hrun]
      exact .inl rfl
    · have holds : ∀ j u, xs[j]? = some u → w.cell? ((⟨g, 0, none⟩ : Addr).add j) = some u := hown.cells (g := g) rfl
      have hr := run_append_grow (P := Tryd.prog) w 74 74 73 i0 _ Tryd.underlying74 hi hz0 ⟨g, 0, none⟩ n cap xs (by rw [hz1]; exact hown.1) holds a 1 1 news hl' hnews (by omega) (by omega) (growslice_fits (by omega) (by rw [hz2]; omega))
      rw [hr] at hrun
      injection hrun with hrun _
      rw [← hrun]
      exact .inr rfl
/-- a name and its value are put behind a room's -/
theorem Room.push {w : World} {u : Value} {l : Its E8} (h : Room w u l) (hl : l.length ≤ 1000000) (n : Nm) (v : E8) (q : Nat) (hq : w.heap[q]? = some (.cells #[txt n, txt v.key, .int .i64 v.m.kind, txt v.m.text, .slice v.pp v.m.pairs.length v.pc, .slice v.ip v.m.items.length v.ic, .int .i64 v.m.px, .int .i64 v.m.py, .int .i64 v.ends] 73 (0, 0))) :
    ∃ u' w', (Builtin.append_ #[74, 74] 74 #[u, .slice (some ⟨q, 0, none⟩) 1 1]).run Tryd.prog w = .ok u' w' ∧ Room w' u' (l ++ [(n, v)]) ∧ w.grownBy w' u.ownBlock ∧ (u'.ownBlock = u.ownBlock ∨ u'.ownBlock = some w.heap.size) := by
  obtain ⟨i0, hi, hz0, hz1, hz2⟩ := info_parts infoP
  have hnews : ∀ j x, ([txt n, txt v.key, .int .i64 v.m.kind, txt v.m.text, .slice v.pp v.m.pairs.length v.pc, .slice v.ip v.m.items.length v.ic, .int .i64 v.m.px, .int .i64 v.m.py, .int .i64 v.ends] : List Value)[j]? = some x → w.cell? ((⟨q, 0, none⟩ : Addr).add j) = some x := fun j x hj => by
    rw [Go.WideShapes.add_plain, cell_of_row _ _ _ _ _ _ hq]
    simpa using hj
  have hone : ∀ x ∈ ([txt n, txt v.key, .int .i64 v.m.kind, txt v.m.text, .slice v.pp v.m.pairs.length v.pc, .slice v.ip v.m.items.length v.ic, .int .i64 v.m.px, .int .i64 v.m.py, .int .i64 v.ends] : List Value), x.oneCell' = true := by
    intro x hx
    simp only [List.mem_cons, List.not_mem_nil, or_false] at hx
    rcases hx with rfl | rfl | rfl | rfl | rfl | rfl | rfl | rfl | rfl <;> rfl
  obtain ⟨u', w', hrun, ho, hgr, _⟩ := run_append_own (P := Tryd.prog) w 0 74 74 73 i0 (.agg #[.string ⟨#[]⟩, .string ⟨#[]⟩, .int .i64 0, .string ⟨#[]⟩, .slice none 0 0, .slice none 0 0, .int .i64 0, .int .i64 0, .int .i64 0]) 9 128 Tryd.underlying74 hi hz0 hz1 hz2 rfl (by decide) _ _ _ h ⟨q, 0, none⟩ 1 1 [txt n, txt v.key, .int .i64 v.m.kind, txt v.m.text, .slice v.pp v.m.pairs.length v.pc, .slice v.ip v.m.items.length v.ic, .int .i64 v.m.px, .int .i64 v.m.py, .int .i64 v.ends] rfl hnews hone (by unfold maxLen; omega) (by omega) (by omega)
  refine ⟨u', w', hrun, ?_, hgr, push_where w u l.length (flat l) h ⟨q, 0, none⟩ _ rfl hnews hone (by omega) u' w' hrun⟩
  show w'.ownsRow 0 _ 9 u' (l ++ [(n, v)]).length (flat (l ++ [(n, v)]))
  rw [List.length_append, flat_app]
  exact ho
theorem step_append_run {P : Program} {ops : Array Oper} {o : Oper} {a : Act} {w : World} {K : Act → World → Prop} {Q : Exit → Act → World → Prop} {E : Prop} (hw : Region.wanted o (yielded ops a.tmps) = true) (s x : Operand) (t : TypeId)
    (ho : o.op = .call { callee := .builtin .append, args := #[s, x], argTypes := #[t, t] }) (v u v' : Value) (w' : World) (hs : a.eval s = v) (hx : a.eval x = u)
    (hrun : (Builtin.append_ #[t, t] o.type #[v, u]).run P w = .ok v' w') (h : K (a.put o.dst v') w') : if Region.wanted o (yielded ops a.tmps) = true then o.wp P a w K Q else E := by
  rw [if_pos hw]
  unfold Oper.wp execOp
  simp only [ho, resolve, invoke, builtin, Sem.run_bind, Sem.run_pure, Result.andThen_ok, List.map_toArray, List.map_cons, List.map_nil, hs, hx, hrun]
  exact h
/-- what a call that turns one table leaves alone -/
structure Upd (e : Bool) (g g' : Tg) (w w' : World) : Prop where
  keep : Keep (fun k => g k ≠ some (.tab e) ∧ ∀ i, g k ≠ some (.room e i)) w w'
  old : ∀ k, g k ≠ none → g' k = g k
  new : ∀ k, g' k ≠ none → g k ≠ none ∨ (w.heap.size ≤ k ∧ k < w'.heap.size)
theorem Upd.refl (e : Bool) (g : Tg) (w : World) : Upd e g g w w := ⟨Keep.refl _ _, fun _ _ => rfl, fun _ h => .inl h⟩
theorem Upd.below {e : Bool} {g : Tg} {w w' : World} (h : Below w.heap.size w w') : Upd e g g w w' := ⟨Keep.of_below h, fun _ _ => rfl, fun _ h => .inl h⟩
theorem Upd.trans {e : Bool} {g g1 g2 : Tg} {w w1 w2 : World} (h : Upd e g g1 w w1) (k : Upd e g1 g2 w1 w2) : Upd e g g2 w w2 where
  keep := ⟨k.keep.os.trans h.keep.os, k.keep.tape.trans h.keep.tape, k.keep.output.trans h.keep.output, Nat.le_trans h.keep.size k.keep.size, fun i hi hp => by
    refine (k.keep.block i (Nat.lt_of_lt_of_le hi h.keep.size) ?_).trans (h.keep.block i hi hp)
    by_cases hg : g i = none
    · have : g1 i = none := by
        cases h1 : g1 i with
        | none => rfl
        | some t =>
          rcases h.new i (by rw [h1]; simp) with h2 | h2
          · exact absurd hg h2
          · omega
      rw [this]
      exact ⟨by simp, fun _ => by simp⟩
    · rw [h.old i hg]
      exact hp⟩
  old := fun i hi => by rw [k.old i (by rw [h.old i hi]; exact hi), h.old i hi]
  new := fun i hi => by
    have s1 := h.keep.size
    have s2 := k.keep.size
    rcases k.new i hi with h1 | h1
    · rcases h.new i h1 with h2 | h2
      · exact .inl h2
      · exact .inr ⟨h2.1, by omega⟩
    · exact .inr ⟨by omega, h1.2⟩
theorem Upd.lt {e : Bool} {g g' : Tg} {w w' : World} {B : Nat} (h : Upd e g g' w w') (hlt : ∀ k, g k ≠ none → k < w.heap.size ∧ B ≤ k) (hB : B ≤ w.heap.size) : ∀ k, g' k ≠ none → k < w'.heap.size ∧ B ≤ k := fun k hk => by
  rcases h.new k hk with h1 | h1
  · exact ⟨Nat.lt_of_lt_of_le (hlt k h1).1 h.keep.size, (hlt k h1).2⟩
  · exact ⟨h1.2, by omega⟩
theorem Upd.env {e : Bool} {g g' : Tg} {w w' : World} {B : Nat} (h : Upd e g g' w w') (hE : Env B w) (hlt : ∀ k, g k ≠ none → k < w.heap.size ∧ B ≤ k) : Env B w' :=
  hE.turn (fun k hk => h.keep.block k (by have := hE.size; omega) (by
    have : g k = none := by
      cases h1 : g k with
      | none => rfl
      | some t => have := (hlt k (by rw [h1]; simp)).2; omega
    rw [this]
    exact ⟨by simp, fun _ => by simp⟩)) h.keep.size
/-- a room of a table turns, and its slice is stored -/
theorem TabIs.stored {w w' : World} {g : Tg} {e : Bool} {nb : Nat} {l : Tb E8} (h : TabIs w g e nb l) (hlt : ∀ k, g k ≠ none → k < w.heap.size) (i : Nat) (hi : i < l.length) (u u' : Value) (m : Its E8) (hu : w.cell? ⟨nb, i, none⟩ = some u) (hR : Room w' u' m)
    (hos : w'.os = w.os) (htp : w'.tape = w.tape) (hou : w'.output = w.output) (hs : w.heap.size ≤ w'.heap.size) (hk : ∀ k, k < w.heap.size → u.ownBlock ≠ some k → w'.heap[k]? = w.heap[k]?) (hwh : ∀ k, u'.ownBlock = some k → u.ownBlock = some k ∨ w.heap.size ≤ k) :
    ∃ g', TabIs (w'.setCell ⟨nb, i, none⟩ u') g' e nb (l.set i m) ∧ Upd e g g' w (w'.setCell ⟨nb, i, none⟩ u') := by
  have htag : g nb = some (.tab e) := by obtain ⟨_, _, _, t, _⟩ := h; exact t
  have hut : ∀ k, u.ownBlock = some k → g k = some (.room e i) := by
    obtain ⟨v, hv, _, _, hvt⟩ := h.room i hi
    rw [hu] at hv
    injection hv with hv
    rw [hv]
    exact hvt
  have hnb := hlt nb (by rw [htag]; simp)
  have hunb : u.ownBlock ≠ some nb := fun e => by
    have := hut nb e
    rw [htag] at this
    cases this
  have hgive : ∀ k, g k ≠ none → g.give u' (.room e i) k = g k := fun k hg => by
    by_cases hb : u'.ownBlock = some k
    · rw [g.give_own _ hb]
      rcases hwh k hb with h1 | h1
      · exact (hut k h1).symm
      · have := hlt k hg; omega
    · exact g.give_other _ hb
  have hu'nb : u'.ownBlock ≠ some nb := fun e => by
    rcases hwh nb e with h1 | h1
    · exact hunb h1
    · omega
  have hnw : w'.heap[nb]? = w.heap[nb]? := hk nb hnb hunb
  refine ⟨g.give u' (.room e i), h.set i u' m ?_ (hgive nb (by rw [htag]; simp)) ?_ (fun k hb => g.give_own _ hb) ?_, ⟨⟨?_, ?_, ?_, ?_, ?_⟩, hgive, ?_⟩⟩
  · intro rv hrv
    exact heap_setCell_same w' nb i rv _ u' (hnw.trans hrv)
  · exact hR.turn (fun k hb => heap_setCell_other _ _ _ _ (fun e => hu'nb (by rw [hb, e])))
  · intro k j hj hg
    refine ⟨(hgive k (by rw [hg]; simp)).trans hg, ?_⟩
    rw [heap_setCell_other _ _ _ _ (fun e => by rw [e, htag] at hg; cases hg)]
    exact hk k (hlt k (by rw [hg]; simp)) (fun e => by
      have := hut k e
      rw [hg] at this
      injection this with this
      injection this with _ this
      exact hj this)
  · exact hos
  · exact htp
  · exact hou
  · simpa using hs
  · intro k hkl hp
    rw [heap_setCell_other _ _ _ _ (fun e => hp.1 (by rw [e]; exact htag))]
    exact hk k hkl (fun e => hp.2 i (hut k e))
  · intro k hg
    by_cases hb : u'.ownBlock = some k
    · rcases hwh k hb with h1 | h1
      · exact .inl (by rw [hut k h1]; simp)
      · exact .inr ⟨h1, by simpa using hR.lt hb⟩
    · rw [g.give_other _ hb] at hg
      exact .inl hg
/-- a room of a table turns where it lies -/
theorem TabIs.inside {w w' : World} {g : Tg} {e : Bool} {nb : Nat} {l : Tb E8} (h : TabIs w g e nb l) (hlt : ∀ k, g k ≠ none → k < w.heap.size) (i : Nat) (hi : i < l.length) (u : Value) (m : Its E8) (hu : w.cell? ⟨nb, i, none⟩ = some u) (hR : Room w' u m)
    (hos : w'.os = w.os) (htp : w'.tape = w.tape) (hou : w'.output = w.output) (hs : w.heap.size ≤ w'.heap.size) (hk : ∀ k, k < w.heap.size → u.ownBlock ≠ some k → w'.heap[k]? = w.heap[k]?) :
    TabIs w' g e nb (l.set i m) ∧ Upd e g g w w' := by
  have htag : g nb = some (.tab e) := by obtain ⟨_, _, _, t, _⟩ := h; exact t
  have hut : ∀ k, u.ownBlock = some k → g k = some (.room e i) := by
    obtain ⟨v, hv, _, _, hvt⟩ := h.room i hi
    rw [hu] at hv
    injection hv with hv
    rw [hv]
    exact hvt
  have hnb := hlt nb (by rw [htag]; simp)
  have hunb : u.ownBlock ≠ some nb := fun e => by
    have := hut nb e
    rw [htag] at this
    cases this
  have hnw : w'.heap[nb]? = w.heap[nb]? := hk nb hnb hunb
  refine ⟨h.set i u m ?_ rfl hR hut ?_, ⟨⟨hos, htp, hou, hs, ?_⟩, fun _ _ => rfl, fun _ h => .inl h⟩⟩
  · intro rv hrv
    have hsame : rv.setIfInBounds i u = rv := by
      rw [cell_of_row w nb i _ _ _ hrv] at hu
      apply Array.ext_getElem?
      intro j
      by_cases hij : i = j
      · subst hij
        rw [Array.getElem?_setIfInBounds_self_of_lt (Array.getElem?_eq_some_iff.1 hu).1, hu]
      · rw [Array.getElem?_setIfInBounds_ne hij]
    rw [hsame]
    exact hnw.trans hrv
  · intro k j hj hg
    exact ⟨hg, hk k (hlt k (by rw [hg]; simp)) (fun e => by
      have := hut k e
      rw [hg] at this
      injection this with this
      injection this with _ this
      exact hj this)⟩
  · intro k hkl hp
    exact hk k hkl (fun e => hp.2 i (hut k e))
set_option maxHeartbeats 2000000 in
set_option maxRecDepth 100000 in
/-- add -/
theorem add_any {B : Nat} {w : World} {g : Tg} {nb : Nat} {l : Tb E8} (h : TabIs w g false nb l) (hlt : ∀ k, g k ≠ none → k < w.heap.size ∧ B ≤ k) (hE : Env B w) (h0 : 0 < l.length) (hl : l.length ≤ 1000000) (hr : ∀ i (h : i < l.length), l[i].length ≤ 1000000) (n : Nm) (v : E8) (hn : n.length ≤ 140737488351232) :
    Calls Tryd.prog 34 #[.slice (some ⟨nb, 0, none⟩) l.length l.length, .agg #[txt n, txt v.key, .int .i64 v.m.kind, txt v.m.text, .slice v.pp v.m.pairs.length v.pc, .slice v.ip v.m.items.length v.ic, .int .i64 v.m.px, .int .i64 v.m.py, .int .i64 v.ends]] w fun e w' => e = .returned (.tuple #[]) ∧ Hid (∃ g', TabIs w' g' false nb (add1 sumN l (n, v)) ∧ Upd false g g' w w') := by
  have hi : sumN n % l.length < l.length := Nat.mod_lt _ h0
  have hgd : l.getD (sumN n % l.length) [] = l[sumN n % l.length] := getD_at _ _ _ hi
  unfold add1
  rw [show ((n, v) : Nm × E8).1 = n from rfl, hgd]
  have hbx := below_alloc w (.cells #[txt n, txt v.key, .int .i64 v.m.kind, txt v.m.text, .slice v.pp v.m.pairs.length v.pc, .slice v.ip v.m.items.length v.ic, .int .i64 v.m.px, .int .i64 v.m.py, .int .i64 v.ends] 73)
  have HR := hid (room_env nb l.length n _ (hE.below hbx hE.size) h0 hl hn)
  have HBX := hid hbx
  have HQ := hid (heap_alloc_new w (.cells #[txt n, txt v.key, .int .i64 v.m.kind, txt v.m.text, .slice v.pp v.m.pairs.length v.pc, .slice v.ip v.m.items.length v.ic, .int .i64 v.m.px, .int .i64 v.m.py, .int .i64 v.ends] 73))
  generalize hI : sumN n % l.length = i at *
  obtain ⟨u, hu, huf, hru, hut⟩ := h.room i hi
  have hnb := (hlt nb (by obtain ⟨_, _, _, e, _⟩ := h; rw [e]; simp)).1
  have HRI := hid (hr i hi)
  have HT := hid h
  have HU := hid hu
  have HRU := hid hru
  have HUT := hid hut
  have HLT := hid hlt
  have HNB := hid hnb
  have hsz : (w.alloc (.cells #[txt n, txt v.key, .int .i64 v.m.kind, txt v.m.text, .slice v.pp v.m.pairs.length v.pc, .slice v.ip v.m.items.length v.ic, .int .i64 v.m.px, .int .i64 v.m.py, .int .i64 v.ends] 73)).heap.size = w.heap.size + 1 := by simp
  have HSZ := hid hsz
  have hz1 := hi
  clear h hlt hE hr hu huf hru hut hgd hbx hI hsz
  have q0 : (w.alloc (.cells #[txt n, txt v.key, .int .i64 v.m.kind, txt v.m.text, .slice v.pp v.m.pairs.length v.pc, .slice v.ip v.m.items.length v.ic, .int .i64 v.m.px, .int .i64 v.m.py, .int .i64 v.ends] 73)).cell? ⟨w.heap.size, 0, none⟩ = some (txt n) := cell_of_row _ _ 0 _ _ _ HQ.out
  go_enter Tryd.func34, Tryd.ntmps34
  go_wp2_with fail
  refine HR.out.mono ?_; rintro e w1 ⟨rfl, hb⟩
  have HB1 := hid (HBX.out.trans (hb.out.mono (by have := HSZ.out; omega)))
  have hq1 := (hb.out.block w.heap.size (by have := HSZ.out; omega)).trans HQ.out
  have y0 : w1.cell? ⟨w.heap.size, 0, none⟩ = some (txt n) := cell_of_row _ _ 0 _ _ _ hq1
  have y1 : w1.cell? ⟨w.heap.size, 1, none⟩ = some (txt v.key) := cell_of_row _ _ 1 _ _ _ hq1
  have y2 : w1.cell? ⟨w.heap.size, 2, none⟩ = some (.int .i64 v.m.kind) := cell_of_row _ _ 2 _ _ _ hq1
  have y3 : w1.cell? ⟨w.heap.size, 3, none⟩ = some (txt v.m.text) := cell_of_row _ _ 3 _ _ _ hq1
  have y4 : w1.cell? ⟨w.heap.size, 4, none⟩ = some (.slice v.pp v.m.pairs.length v.pc) := cell_of_row _ _ 4 _ _ _ hq1
  have y5 : w1.cell? ⟨w.heap.size, 5, none⟩ = some (.slice v.ip v.m.items.length v.ic) := cell_of_row _ _ 5 _ _ _ hq1
  have y6 : w1.cell? ⟨w.heap.size, 6, none⟩ = some (.int .i64 v.m.px) := cell_of_row _ _ 6 _ _ _ hq1
  have y7 : w1.cell? ⟨w.heap.size, 7, none⟩ = some (.int .i64 v.m.py) := cell_of_row _ _ 7 _ _ _ hq1
  have y8 : w1.cell? ⟨w.heap.size, 8, none⟩ = some (.int .i64 v.ends) := cell_of_row _ _ 8 _ _ _ hq1
  have x0 := cell_turn HU.out (HB1.out.block nb HNB.out)
  have hs1 : w.heap.size + 1 ≤ w1.heap.size := by have := hb.out.size; have := HSZ.out; omega
  have hT1 : TabIs w1 g false nb l := HT.out.turn (fun k e => ⟨e, HB1.out.block k (HLT.out k (by rw [e]; simp)).1⟩) (fun k i e => ⟨e, HB1.out.block k (HLT.out k (by rw [e]; simp)).1⟩)
  have HB2 := hid ((below_alloc w1 (.cells #[txt n, txt v.key, .int .i64 v.m.kind, txt v.m.text, .slice v.pp v.m.pairs.length v.pc, .slice v.ip v.m.items.length v.ic, .int .i64 v.m.px, .int .i64 v.m.py, .int .i64 v.ends] 73)).drew)
  have hR2 := HRU.out.turn (w' := (w1.alloc (.cells #[txt n, txt v.key, .int .i64 v.m.kind, txt v.m.text, .slice v.pp v.m.pairs.length v.pc, .slice v.ip v.m.items.length v.ic, .int .i64 v.m.px, .int .i64 v.m.py, .int .i64 v.ends] 73)).drew) (fun k hk => (HB2.out.block k (Nat.lt_of_lt_of_le (HRU.out.lt hk) HB1.out.size)).trans (HB1.out.block k (HRU.out.lt hk)))
  obtain ⟨u', w', hrun, hR', hgr, hwh⟩ := hR2.push HRI.out n v w1.heap.size (heap_alloc_new w1 _)
  have HRun := hid hrun
  have HR' := hid hR'
  have HGR := hid hgr
  have HWH := hid hwh
  have HT1 := hid hT1
  have HUO : Hid (u.ownBlock ≠ some nb) := fun e => by
    have h1 := HUT.out nb e
    obtain ⟨_, _, _, h2, _⟩ := HT.out
    rw [h2] at h1
    cases h1
  have hn1 : nb < w1.heap.size := Nat.lt_of_lt_of_le HNB.out HB1.out.size
  have hnw : w'.heap[nb]? = w1.heap[nb]? := (hgr.block nb (by simp; omega) (fun e => HUO.out e.symm)).trans (HB2.out.block nb hn1)
  have HNW := hid hnw
  have z0 := cell_turn x0 hnw
  have zf : w'.frozen? ⟨nb, i, none⟩ = false := by
    obtain ⟨rv, a, _⟩ := hT1
    exact frozen_of_row w' nb i _ _ (hnw.trans a)
  have HK := hid (HT.out.stored (fun k hk => (HLT.out k hk).1) i hi u u' _ HU.out hR' (hgr.os.trans (HB2.out.os.trans HB1.out.os)) (hgr.tape.trans (HB2.out.tape.trans HB1.out.tape)) (hgr.output.trans (HB2.out.output.trans HB1.out.output))
    (Nat.le_trans HB1.out.size (Nat.le_trans HB2.out.size hgr.size)) (fun k hkl hne => (hgr.block k (Nat.lt_of_lt_of_le hkl (Nat.le_trans HB1.out.size HB2.out.size)) (fun e => hne e.symm)).trans ((HB2.out.block k (Nat.lt_of_lt_of_le hkl HB1.out.size)).trans (HB1.out.block k hkl)))
    (fun k hb => by
      rcases hwh with e | e
      · exact .inl (by rw [← e]; exact hb)
      · rw [e] at hb
        injection hb with hb
        refine .inr ?_
        simp at hb
        omega))
  obtain ⟨p, c, rfl⟩ := HRU.out.shape
  obtain ⟨p', c', rfl⟩ := hR'.shape
  generalize hM : (l[i] ++ [(n, v)]).length = M at *
  clear hrun hR' hgr hwh hT1 hnw hR2 hq1 HGR HWH HT1 HR' hM
  go_wp2_with fail
  go_region_law (first
    | (refine step_append_run rfl _ _ 74 rfl _ _ _ _ rfl rfl HRun.out ?_))
  all_goals go_wp2_with fail
  all_goals go_end0
  all_goals exact ⟨rfl, HK⟩

end Go.Proofs.YtppgifaegnmciaaDoor.Dc.DE
