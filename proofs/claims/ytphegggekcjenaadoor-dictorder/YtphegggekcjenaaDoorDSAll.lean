/- The program's dict of texts: rooms, tables and all that its methods do. -/
import Derived.Test.YtphegggekcjenaaDoorTags
import Derived.Deep.RegionLaw
import Derived.WalkLawsBesides
import Derived.Test.YtphegggekcjenaaDoorCrc
import Derived.Laws.OwnMore
import Derived.WalkSpells
import Derived.Laws.MakeOwn
import Derived.Test.YtphegggekcjenaaDoorSorted
import Derived.Test.YtphegggekcjenaaDoorRefNames
import Derived.Test.YtphegggekcjenaaDoorMethS
namespace Go.Proofs.YtphegggekcjenaaDoor.DS
open Go.RowKit

/-- a room's cells -/
def flat (l : Its Nm) : List Value := l.flatMap (fun x => [txt x.1, (txt (x.2))])
theorem flat_nil : flat [] = [] := rfl
theorem flat_cons (x : Nm × Nm) (l : Its Nm) : flat (x :: l) = txt x.1 :: (txt (x.2)) :: flat l := rfl
theorem flat_app (a b : Its Nm) : flat (a ++ b) = flat a ++ flat b := by simp [flat]
theorem flat_len : ∀ l : Its Nm, (flat l).length = l.length * 2
  | [] => rfl
  | x :: l => by rw [flat_cons, List.length_cons, List.length_cons, flat_len l, List.length_cons]; omega
theorem flat_get : ∀ (l : Its Nm) (i : Nat) (h : i < l.length), (flat l)[i * 2]? = some (txt l[i].1) ∧ (flat l)[i * 2 + 1]? = some (txt (l[i].2))
  | x :: l, 0, _ => ⟨rfl, rfl⟩
  | x :: l, i + 1, h => by
    have := flat_get l i (by simpa using h)
    rw [flat_cons, show (i + 1) * 2 = i * 2 + 1 + 1 by omega]
    simpa using this
theorem flat_put (a b : Its Nm) (n : Nm) (v0 v : Nm) : (flat (a ++ (n, v0) :: b)).set (a.length * 2 + 1) (txt v) = flat (a ++ (n, v) :: b) := by
  rw [flat_app, flat_app, flat_cons, flat_cons, List.set_append_right _ _ (by rw [flat_len]; omega), flat_len, show a.length * 2 + 1 - a.length * 2 = 1 by omega]
  rfl
theorem flat_one (l : Its Nm) : ∀ u ∈ flat l, u.oneCell' = true := by
  intro u hu
  simp only [flat, List.mem_flatMap] at hu
  obtain ⟨x, _, hx⟩ := hu
  simp only [List.mem_cons, List.not_mem_nil, or_false] at hx
  rcases hx with rfl | rfl <;> rfl
/-- a room -/
abbrev Room (w : World) (u : Value) (l : Its Nm) : Prop := w.ownsRow 0 93 2 u l.length (flat l)
theorem Room.nil (w : World) : Room w (.slice none 0 0) [] := World.ownsRow_nil w 0 _ _
theorem Room.shape {w : World} {u : Value} {l : Its Nm} (h : Room w u l) : ∃ p c, u = .slice p l.length c := by
  rcases h.2 with ⟨rfl, h0⟩ | ⟨g, cap, cur, rfl, _⟩
  · exact ⟨none, 0, by rw [h0]⟩
  · exact ⟨_, _, rfl⟩
theorem Room.turn {w w' : World} {u : Value} {l : Its Nm} (h : Room w u l) (hk : ∀ k, u.ownBlock = some k → w'.heap[k]? = w.heap[k]?) : Room w' u l := by
  refine ⟨h.1, ?_⟩
  rcases h.2 with h | ⟨g, cap, cur, rfl, h2, h3, h4⟩
  · exact .inl h
  · exact .inr ⟨g, cap, cur, rfl, h2, (hk g rfl).trans h3, h4⟩
theorem Room.lt {w : World} {u : Value} {l : Its Nm} (h : Room w u l) {k : Nat} (hk : u.ownBlock = some k) : k < w.heap.size := (World.ownsRow.lt h k hk).2
/-- where its names and values lie -/
theorem Room.cells {w : World} {p : Option Addr} {n c : Nat} {l : Its Nm} (h : Room w (.slice p n c) l) (i : Nat) (hi : i < l.length) : ∃ g, p = some ⟨g, 0, none⟩ ∧ ∀ j (hj : j < l.length), w.cell? ⟨g, j * 2, none⟩ = some (txt l[j].1) ∧ w.cell? ⟨g, j * 2 + 1, none⟩ = some (txt (l[j].2)) := by
  rcases h.2 with ⟨_, h0⟩ | ⟨g, cap, cur, e, _⟩
  · omega
  · injection e with e1 e2 e3
    subst e1
    refine ⟨g, rfl, fun j hj => ?_⟩
    obtain ⟨f1, f2⟩ := flat_get l j hj
    have := World.ownsRow.cells h (g := g) rfl _ _ f1
    have := World.ownsRow.cells h (g := g) rfl _ _ f2
    simp only [Go.WideShapes.add_plain, Nat.zero_add] at *
    exact ⟨by assumption, by assumption⟩
/-- a table in block nb -/
def TabIs (w : World) (g : Tg) (e : Bool) (nb : Nat) (l : Tb Nm) : Prop :=
  ∃ rv : Array Value, w.heap[nb]? = some (.cells rv 94 (0, 0)) ∧ rv.size = l.length ∧ g nb = some (.tab e) ∧
    ∀ i (hi : i < l.length), ∃ u, rv[i]? = some u ∧ Room w u l[i] ∧ ∀ k, u.ownBlock = some k → g k = some (.room e i)
theorem TabIs.turn {w w' : World} {g g' : Tg} {e : Bool} {nb : Nat} {l : Tb Nm} (h : TabIs w g e nb l) (h1 : ∀ k, g k = some (.tab e) → g' k = some (.tab e) ∧ w'.heap[k]? = w.heap[k]?) (h2 : ∀ k i, g k = some (.room e i) → g' k = some (.room e i) ∧ w'.heap[k]? = w.heap[k]?) : TabIs w' g' e nb l := by
  obtain ⟨rv, a, b, c, d⟩ := h
  refine ⟨rv, (h1 nb c).2.trans a, b, (h1 nb c).1, fun i hi => ?_⟩
  obtain ⟨u, x, y, z⟩ := d i hi
  exact ⟨u, x, y.turn (fun k hk => (h2 k i (z k hk)).2), fun k hk => (h2 k i (z k hk)).1⟩
/-- a room's slice -/
theorem TabIs.room {w : World} {g : Tg} {e : Bool} {nb : Nat} {l : Tb Nm} (h : TabIs w g e nb l) (i : Nat) (hi : i < l.length) : ∃ u, w.cell? ⟨nb, i, none⟩ = some u ∧ w.frozen? ⟨nb, i, none⟩ = false ∧ Room w u l[i] ∧ ∀ k, u.ownBlock = some k → g k = some (.room e i) := by
  obtain ⟨rv, a, _, _, d⟩ := h
  obtain ⟨u, x, y, z⟩ := d i hi
  exact ⟨u, by rw [cell_of_row w nb i _ _ _ a]; exact x, frozen_of_row w nb i _ _ a, y, z⟩
/-- a room is another one -/
theorem TabIs.set {w w' : World} {g g' : Tg} {e : Bool} {nb : Nat} {l : Tb Nm} (h : TabIs w g e nb l) (i : Nat) (u : Value) (m : Its Nm)
    (hn : ∀ rv, w.heap[nb]? = some (.cells rv 94 (0, 0)) → w'.heap[nb]? = some (.cells (rv.setIfInBounds i u) 94 (0, 0))) (hg : g' nb = g nb) (hu : Room w' u m) (hk : ∀ k, u.ownBlock = some k → g' k = some (.room e i))
    (ho : ∀ k j, j ≠ i → g k = some (.room e j) → g' k = some (.room e j) ∧ w'.heap[k]? = w.heap[k]?) : TabIs w' g' e nb (l.set i m) := by
  obtain ⟨rv, a, b, c, d⟩ := h
  refine ⟨_, hn rv a, by simpa using b, hg.trans c, fun j hj => ?_⟩
  rw [List.length_set] at hj
  by_cases hij : i = j
  · subst hij
    refine ⟨u, Array.getElem?_setIfInBounds_self_of_lt (by omega), ?_, hk⟩
    simpa using hu
  · obtain ⟨v, x, y, z⟩ := d j hj
    refine ⟨v, ?_, ?_, fun k hk => (ho k j (Ne.symm hij) (z k hk)).1⟩
    · rw [Array.getElem?_setIfInBounds_ne hij]; exact x
    · rw [List.getElem_set_ne hij]
      exact y.turn (fun k hk => (ho k j (Ne.symm hij) (z k hk)).2)
/-- the elder table, if there is one -/
def ElIs (w : World) (g : Tg) (ev : Value) (l : Tb Nm) : Prop := (ev = .slice none 0 0 ∧ l = []) ∨ ∃ eb, ev = .slice (some ⟨eb, 0, none⟩) l.length l.length ∧ l ≠ [] ∧ TabIs w g true eb l
theorem ElIs.turn {w w' : World} {g g' : Tg} {ev : Value} {l : Tb Nm} (h : ElIs w g ev l) (h1 : ∀ k, g k = some (.tab true) → g' k = some (.tab true) ∧ w'.heap[k]? = w.heap[k]?) (h2 : ∀ k i, g k = some (.room true i) → g' k = some (.room true i) ∧ w'.heap[k]? = w.heap[k]?) : ElIs w' g' ev l := by
  rcases h with h | ⟨eb, a, b, c⟩
  · exact .inl h
  · exact .inr ⟨eb, a, b, c.turn h1 h2⟩
/-- a dict's four cells -/
abbrev headC (nb : Nat) (ev : Value) (T : TM Nm) (many : Nat) : Array Value := #[.slice (some ⟨nb, 0, none⟩) T.nw.length T.nw.length, ev, .int .i64 T.tk, .int .i64 many]
/-- a dict in block b -/
structure Lies (B : Nat) (w : World) (g : Tg) (b nb : Nat) (ev : Value) (T : TM Nm) (many : Nat) : Prop where
  head : w.heap[b]? = some (.cells (headC nb ev T many) 88 (0, 0))
  tag : g b = some .dict
  nw : TabIs w g false nb T.nw
  el : ElIs w g ev T.el
  lt : ∀ k, g k ≠ none → k < w.heap.size ∧ B ≤ k
theorem Lies.turn {B : Nat} {w w' : World} {g : Tg} {b nb : Nat} {ev : Value} {T : TM Nm} {many : Nat} (h : Lies B w g b nb ev T many) (hk : ∀ k, g k ≠ none → w'.heap[k]? = w.heap[k]?) (hs : w.heap.size ≤ w'.heap.size) : Lies B w' g b nb ev T many where
  head := (hk b (by rw [h.tag]; simp)).trans h.head
  tag := h.tag
  nw := h.nw.turn (fun k e => ⟨e, hk k (by rw [e]; simp)⟩) (fun k i e => ⟨e, hk k (by rw [e]; simp)⟩)
  el := h.el.turn (fun k e => ⟨e, hk k (by rw [e]; simp)⟩) (fun k i e => ⟨e, hk k (by rw [e]; simp)⟩)
  lt := fun k e => ⟨Nat.lt_of_lt_of_le (h.lt k e).1 hs, (h.lt k e).2⟩
theorem Lies.below {B : Nat} {w w' : World} {g : Tg} {b nb : Nat} {ev : Value} {T : TM Nm} {many : Nat} (h : Lies B w g b nb ev T many) (k : Below w.heap.size w w') : Lies B w' g b nb ev T many := h.turn (fun i hi => k.block i (h.lt i hi).1) k.size
theorem Lies.cells {B : Nat} {w : World} {g : Tg} {b nb : Nat} {ev : Value} {T : TM Nm} {many : Nat} (h : Lies B w g b nb ev T many) : w.cell? ⟨b, 0, none⟩ = some (.slice (some ⟨nb, 0, none⟩) T.nw.length T.nw.length) ∧ w.cell? ⟨b, 1, none⟩ = some ev ∧ w.cell? ⟨b, 2, none⟩ = some (.int .i64 T.tk) ∧ w.cell? ⟨b, 3, none⟩ = some (.int .i64 many) :=
  ⟨cell_of_row w b 0 _ _ _ h.head, cell_of_row w b 1 _ _ _ h.head, cell_of_row w b 2 _ _ _ h.head, cell_of_row w b 3 _ _ _ h.head⟩
theorem Lies.frozen {B : Nat} {w : World} {g : Tg} {b nb : Nat} {ev : Value} {T : TM Nm} {many : Nat} (h : Lies B w g b nb ev T many) (i : Nat) : w.frozen? ⟨b, i, none⟩ = false := frozen_of_row w b i _ _ h.head

end Go.Proofs.YtphegggekcjenaaDoor.DS

namespace Go.Proofs.YtphegggekcjenaaDoor.DS
open Go.RowKit

set_option maxHeartbeats 1000000 in
set_option maxRecDepth 100000 in
/-- place -/
theorem place_any (u : Value) (l : Its Nm) (n : Nm) (w : World) (h : Room w u l) (hl : l.length ≤ 9223372036854775807) :
    Calls Tryd.prog 50 #[u, txt n] w fun e w' => e = .returned (.int .i64 (plcI n l)) ∧ w' = w := by
  obtain ⟨p, c, rfl⟩ := h.shape
  have H := hid h
  clear h
  go_enter Tryd.func50, Tryd.ntmps50
  go_wp2
  go_loop [5, 8] (fun _ v8 => ∃ i : Nat, v8 = .int .i64 i ∧ i ≤ l.length ∧ Hid (∀ j (hj : j < l.length), j < i → l[j].1 ≠ n)) (fun _ v8 => l.length - (intOf v8).toNat)
  case atStart => exact ⟨0, rfl, Nat.zero_le _, fun j hj h => by omega⟩
  case round =>
    obtain ⟨i, rfl, hi, HN⟩ := hrel
    by_cases hlt : i < l.length
    · obtain ⟨g, rfl, hc⟩ := H.out.cells i hlt
      have x0 := (hc i hlt).1
      have hlz : (i : Int) < (l.length : Int) := by omega
      by_cases he : l[i].1 = n
      · have HP := hid (plcI_some (plc_at i hlt he HN.out))
        rw [he] at x0
        clear hc he
        go_wp2
        go_ret
        exact ⟨ret_int HP.out.symm, rfl⟩
      · have HE := hid he
        have hne : (l[i].1 == n) = false := by
          rw [beq_eq_false_iff_ne]
          exact he
        clear hc he
        go_wp2
        exact ⟨⟨i + 1, by go_num, by omega, fun j hj hji => by
          by_cases e : j = i
          · subst e; exact HE.out
          · exact HN.out j hj (by omega)⟩, by simp [intOf]; omega⟩
    · have HP := hid (plcI_none (plc_not (fun j hj => HN.out j hj (by omega))))
      go_wp2
      go_ret
      exact ⟨ret_int HP.out.symm, rfl⟩

end Go.Proofs.YtphegggekcjenaaDoor.DS

namespace Go.Proofs.YtphegggekcjenaaDoor.DS
open Go.RowKit

set_option maxHeartbeats 1000000 in
set_option maxRecDepth 100000 in
/-- room -/
theorem room_any (nb N : Nat) (n : Nm) (w : World) (ht : Tab w) (hg : 0 < w.heap.size) (h0 : 0 < N) (hN : N ≤ 1000000) (hn : n.length ≤ 140737488351232) :
    Calls Tryd.prog 49 #[.slice (some ⟨nb, 0, none⟩) N N, txt n] w fun e w' => e = .returned (.pointer (some ⟨nb, sumN n % N, none⟩)) ∧ Hid (Below w.heap.size w w') := by
  have kc := fun (w : World) (s : ByteArray) => Lib.run_convert_string_bytes (P := Tryd.prog) w 9 48 5 s Tryd.underlying9 Tryd.underlying48 Tryd.underlying5
  have HS := hid fun c => sum_of n c w ht hg (by omega)
  have HB := hid (bytesWorld_below w 5 ⟨n.toArray⟩)
  have hx := (Crc.more 0#16 (n.map UInt8.toBitVec)).isLt
  unfold sumN
  generalize (Crc.more 0#16 (n.map UInt8.toBitVec)).toNat = x at HS hx ⊢
  obtain ⟨k, hk⟩ : ∃ k, k = x % N := ⟨_, rfl⟩
  have hkN : k < N := by rw [hk]; exact Nat.mod_lt _ h0
  have hr : (x : Int) % (N : Int) = (k : Int) := by rw [hk]; simp
  have hrt : (x : Int).tmod (N : Int) = (k : Int) := by rw [Int.tmod_eq_emod_of_nonneg (by omega)]; exact hr
  rw [← hk]
  have hx' : (x : Int) ≤ 65535 := by omega
  have h0z : (0 : Int) < (N : Int) := by omega
  have hnz : ((N : Int) == 0) = false := by simpa using by omega
  have hkz : (k : Int) < (N : Int) := by omega
  clear ht hg hk
  go_enter Tryd.func49, Tryd.ntmps49
  go_wp2_with fail
  refine (HS.out _).mono ?_; rintro e w' ⟨rfl, rfl⟩
  go_wp2
  go_ret
  exact ⟨rfl, HB.out⟩

end Go.Proofs.YtphegggekcjenaaDoor.DS

namespace Go.Proofs.YtphegggekcjenaaDoor.DS
open Go.RowKit

/-- what calls lean on: the table of sums, below B -/
structure Env (B : Nat) (w : World) : Prop where
  tab : Tab w
  lt : 0 < B
  size : B ≤ w.heap.size
theorem Env.turn {B : Nat} {w w' : World} (h : Env B w) (hk : ∀ k, k < B → w'.heap[k]? = w.heap[k]?) (hs : w.heap.size ≤ w'.heap.size) : Env B w' :=
  ⟨fun i hi => cell_turn (h.tab i hi) (hk _ h.lt), h.lt, Nat.le_trans h.size hs⟩
theorem Env.below {B n : Nat} {w w' : World} (h : Env B w) (k : Below n w w') (hn : B ≤ n) : Env B w' := h.turn (fun i hi => k.block i (by omega)) k.size
theorem room_env {B : Nat} (nb N : Nat) (n : Nm) (w : World) (h : Env B w) (h0 : 0 < N) (hN : N ≤ 1000000) (hn : n.length ≤ 140737488351232) :
    Calls Tryd.prog 49 #[.slice (some ⟨nb, 0, none⟩) N N, txt n] w fun e w' => e = .returned (.pointer (some ⟨nb, sumN n % N, none⟩)) ∧ Hid (Below w.heap.size w w') :=
  room_any nb N n w h.tab (by have := h.lt; have := h.size; omega) h0 hN hn
/-- both tables are not too great -/
structure Fit (T : TM Nm) : Prop where
  n0 : 0 < T.nw.length
  nN : T.nw.length ≤ 1000000
  eN : T.el.length ≤ 1000000
  rN : ∀ i (h : i < T.nw.length), T.nw[i].length ≤ 1000000
  rE : ∀ i (h : i < T.el.length), T.el[i].length ≤ 1000000
set_option maxHeartbeats 1000000 in
set_option maxRecDepth 100000 in
/-- find: in the newer table -/
theorem find_new {B : Nat} {w : World} {g : Tg} {b nb : Nat} {ev : Value} {T : TM Nm} {many : Nat} (h : Lies B w g b nb ev T many) (hE : Env B w) (hF : Fit T) (n : Nm) (hn : n.length ≤ 140737488351232) (i : Nat) (hi : i < T.nw.length) (he : sumN n % T.nw.length = i) (k : Nat) (hk : plc n T.nw[i] = some k) :
    Calls Tryd.prog 42 #[.pointer (some ⟨b, 0, none⟩), txt n] w fun e w' => e = .returned (.tuple #[.pointer (some ⟨nb, i, none⟩), .int .i64 k]) ∧ Hid (Below w.heap.size w w') := by
  obtain ⟨c0, -⟩ := h.cells
  have HR := hid (room_env nb T.nw.length n w hE hF.n0 hF.nN hn)
  rw [he] at HR
  obtain ⟨u, hu, -, hru, -⟩ := h.nw.room i hi
  have hnb := h.lt nb (by obtain ⟨_, _, _, e, _⟩ := h.nw; rw [e]; simp)
  have HU := hid hu
  have HRU := hid hru
  have HL := hid hnb.1
  have HK := hid (plcI_some hk)
  have HFr := hid (hF.rN i hi)
  obtain ⟨p, c, rfl⟩ := hru.shape
  clear h hE hF hk he hu hru hnb
  go_enter Tryd.func42, Tryd.ntmps42
  go_wp2_with fail
  refine HR.out.mono ?_; rintro e w1 ⟨rfl, hb⟩
  have x0 := cell_turn HU.out (hb.out.block nb HL.out)
  have HP := hid (place_any _ _ n w1 (HRU.out.turn (fun k hk => hb.out.block k (HRU.out.lt hk))) (by have := HFr.out; omega))
  rw [HK.out] at HP
  go_wp2_with fail
  refine HP.out.mono ?_; rintro e w2 ⟨rfl, rfl⟩
  go_wp2
  go_ret2
  exact ⟨rfl, hb⟩
set_option maxHeartbeats 1000000 in
set_option maxRecDepth 100000 in
/-- find: not in the newer table, and there is no other -/
theorem find_one {B : Nat} {w : World} {g : Tg} {b nb : Nat} {T : TM Nm} {many : Nat} (h : Lies B w g b nb (.slice none 0 0) T many) (hE : Env B w) (hF : Fit T) (n : Nm) (hn : n.length ≤ 140737488351232) (i : Nat) (hi : i < T.nw.length) (he : sumN n % T.nw.length = i) (hk : plc n T.nw[i] = none) :
    Calls Tryd.prog 42 #[.pointer (some ⟨b, 0, none⟩), txt n] w fun e w' => e = .returned (.tuple #[.pointer (some ⟨nb, i, none⟩), .int .i64 (-1)]) ∧ Hid (Below w.heap.size w w') := by
  obtain ⟨c0, c1, -⟩ := h.cells
  have HR := hid (room_env nb T.nw.length n w hE hF.n0 hF.nN hn)
  rw [he] at HR
  obtain ⟨u, hu, -, hru, -⟩ := h.nw.room i hi
  have hnb := h.lt nb (by obtain ⟨_, _, _, e, _⟩ := h.nw; rw [e]; simp)
  have HU := hid hu
  have HRU := hid hru
  have HL := hid hnb.1
  have HK := hid (plcI_none hk)
  have HFr := hid (hF.rN i hi)
  have HC1 := hid c1
  have HBL := hid (h.lt b (by rw [h.tag]; simp)).1
  obtain ⟨p, c, rfl⟩ := hru.shape
  clear h hE hF hk he hu hru hnb c1
  go_enter Tryd.func42, Tryd.ntmps42
  go_wp2_with fail
  refine HR.out.mono ?_; rintro e w1 ⟨rfl, hb⟩
  have x0 := cell_turn HU.out (hb.out.block nb HL.out)
  have x1 := cell_turn HC1.out (hb.out.block b HBL.out)
  have HP := hid (place_any _ _ n w1 (HRU.out.turn (fun k hk => hb.out.block k (HRU.out.lt hk))) (by have := HFr.out; omega))
  rw [HK.out] at HP
  go_wp2_with fail
  refine HP.out.mono ?_; rintro e w2 ⟨rfl, rfl⟩
  go_wp2
  go_ret2
  exact ⟨rfl, hb⟩
set_option maxHeartbeats 1000000 in
set_option maxRecDepth 100000 in
/-- find: not in the newer table; the elder one is looked at -/
theorem find_two {B : Nat} {w : World} {g : Tg} {b nb eb : Nat} {T : TM Nm} {many : Nat} (h : Lies B w g b nb (.slice (some ⟨eb, 0, none⟩) T.el.length T.el.length) T many) (hT : TabIs w g true eb T.el) (hE : Env B w) (hF : Fit T) (n : Nm) (hn : n.length ≤ 140737488351232) (i : Nat) (hi : i < T.nw.length) (he : sumN n % T.nw.length = i) (hk : plc n T.nw[i] = none) (j : Nat) (hj : j < T.el.length) (hje : sumN n % T.el.length = j) :
    Calls Tryd.prog 42 #[.pointer (some ⟨b, 0, none⟩), txt n] w fun e w' => e = .returned (.tuple #[.pointer (some ⟨eb, j, none⟩), .int .i64 (plcI n T.el[j])]) ∧ Hid (Below w.heap.size w w') := by
  obtain ⟨c0, c1, -⟩ := h.cells
  have HR := hid (room_env nb T.nw.length n w hE hF.n0 hF.nN hn)
  rw [he] at HR
  obtain ⟨u, hu, -, hru, -⟩ := h.nw.room i hi
  have hnb := h.lt nb (by obtain ⟨_, _, _, e, _⟩ := h.nw; rw [e]; simp)
  have heb := h.lt eb (by obtain ⟨_, _, _, e, _⟩ := hT; rw [e]; simp)
  have HEB := hid heb.1
  obtain ⟨v, hv, -, hrv, -⟩ := hT.room j hj
  have HV := hid hv
  have HRV := hid hrv
  have HU := hid hu
  have HRU := hid hru
  have HL := hid hnb.1
  have HK := hid (plcI_none hk)
  have HFr := hid (hF.rN i hi)
  have HFe := hid (hF.rE j hj)
  have HC1 := hid c1
  have HBL := hid (h.lt b (by rw [h.tag]; simp)).1
  have HEN := hid hE
  have HT := hid (fun w1 (h : Env B w1) => room_env eb T.el.length n w1 h (by omega) hF.eN hn)
  rw [hje] at HT
  obtain ⟨p, c, rfl⟩ := hru.shape
  obtain ⟨q, d, rfl⟩ := hrv.shape
  have hpl := plcI_le n T.el[j]
  generalize hX : plcI n T.el[j] = X at *
  clear h hE hF hk he hu hru hnb c1 hv hrv heb hT hje
  go_enter Tryd.func42, Tryd.ntmps42
  go_wp2_with fail
  refine HR.out.mono ?_; rintro e w1 ⟨rfl, hb⟩
  have x0 := cell_turn HU.out (hb.out.block nb HL.out)
  have x1 := cell_turn HC1.out (hb.out.block b HBL.out)
  have HP := hid (place_any _ _ n w1 (HRU.out.turn (fun k hk => hb.out.block k (HRU.out.lt hk))) (by have := HFr.out; omega))
  rw [HK.out] at HP
  go_wp2_with fail
  refine HP.out.mono ?_; rintro e w2 ⟨rfl, rfl⟩
  go_wp2_with fail
  refine (HT.out _ (HEN.out.below hb.out HEN.out.size)).mono ?_; rintro e w3 ⟨rfl, hb2⟩
  have HB3 := hid (hb.out.trans (hb2.out.mono hb.out.size))
  have y0 := cell_turn HV.out (HB3.out.block eb HEB.out)
  have HP2 := hid (place_any _ _ n w3 (HRV.out.turn (fun k hk => HB3.out.block k (HRV.out.lt hk))) (by have := HFe.out; omega))
  rw [hX] at HP2
  clear hX
  go_wp2_with fail
  refine HP2.out.mono ?_; rintro e w4 ⟨rfl, rfl⟩
  go_wp2
  go_ret2
  exact ⟨rfl, HB3⟩

end Go.Proofs.YtphegggekcjenaaDoor.DS

namespace Go.Proofs.YtphegggekcjenaaDoor.DS
open Go.RowKit

theorem infoP : (Tryd.prog.info? 93).map (fun i => (i.zero, i.size, i.bytes)) = some (some (.agg #[.string ⟨#[]⟩, .string ⟨#[]⟩]), 2, 32) := by kernel_rfl
/-- an append leaves a room where it was, or lays a new one -/
theorem push_where (w : World) (u : Value) (n : Nat) (xs : List Value) (hown : w.ownsRow 0 93 2 u n xs) (a : Addr) (news : List Value) (hl : news.length = 2) (hnews : ∀ j u, news[j]? = some u → w.cell? (a.add j) = some u) (h1 : ∀ u ∈ news, u.oneCell' = true) (hn : n ≤ 1000000000) (u' : Value) (w' : World)
    (hrun : (Builtin.append_ #[94, 94] 94 #[u, .slice (some a) 1 1]).run Tryd.prog w = .ok u' w') : u'.ownBlock = u.ownBlock ∨ u'.ownBlock = some w.heap.size := by
  obtain ⟨i0, hi, hz0, hz1, hz2⟩ := info_parts infoP
  have hl' : news.length = 1 * i0.size := by rw [hz1, hl]
  rcases hown.2 with ⟨rfl, rfl⟩ | ⟨g, cap, cur, rfl, hbg, hg, hnc, hcm, hcs, htake⟩
  · have hr := run_append_nil (P := Tryd.prog) w 94 94 93 i0 _ Tryd.underlying94 hi hz0 a 1 1 news hl' hnews (by omega) (by omega) (by rw [hz2]; omega)
    rw [hr] at hrun
    injection hrun with hrun _
    rw [← hrun]
    exact .inr rfl
  · by_cases hroom : n + 1 ≤ cap
    · have hr := run_append_room (P := Tryd.prog) w 94 94 93 i0 Tryd.underlying94 hi g n cap cur hg a 1 1 news hl' hnews h1 hroom (by rw [hl, hcs, hz1]; omega)
      rw [hr] at hrun
      injection hrun with hrun _
      rw [← hrun]
      exact .inl rfl
    · have holds : ∀ j u, xs[j]? = some u → w.cell? ((⟨g, 0, none⟩ : Addr).add j) = some u := hown.cells (g := g) rfl
      have hr := run_append_grow (P := Tryd.prog) w 94 94 93 i0 _ Tryd.underlying94 hi hz0 ⟨g, 0, none⟩ n cap xs (by rw [hz1]; exact hown.1) holds a 1 1 news hl' hnews (by omega) (by omega) (growslice_fits (by omega) (by rw [hz2]; omega))
      rw [hr] at hrun
      injection hrun with hrun _
      rw [← hrun]
      exact .inr rfl
/-- a name and its value are put behind a room's -/
theorem Room.push {w : World} {u : Value} {l : Its Nm} (h : Room w u l) (hl : l.length ≤ 1000000) (n : Nm) (v : Nm) (q : Nat) (hq : w.heap[q]? = some (.cells #[txt n, (txt v)] 93 (0, 0))) :
    ∃ u' w', (Builtin.append_ #[94, 94] 94 #[u, .slice (some ⟨q, 0, none⟩) 1 1]).run Tryd.prog w = .ok u' w' ∧ Room w' u' (l ++ [(n, v)]) ∧ w.grownBy w' u.ownBlock ∧ (u'.ownBlock = u.ownBlock ∨ u'.ownBlock = some w.heap.size) := by
  obtain ⟨i0, hi, hz0, hz1, hz2⟩ := info_parts infoP
  have hnews : ∀ j x, ([txt n, (txt v)] : List Value)[j]? = some x → w.cell? ((⟨q, 0, none⟩ : Addr).add j) = some x := fun j x hj => by
    rw [Go.WideShapes.add_plain, cell_of_row _ _ _ _ _ _ hq]
    simpa using hj
  have hone : ∀ x ∈ ([txt n, (txt v)] : List Value), x.oneCell' = true := by
    intro x hx
    simp only [List.mem_cons, List.not_mem_nil, or_false] at hx
    rcases hx with rfl | rfl <;> rfl
  obtain ⟨u', w', hrun, ho, hgr, _⟩ := run_append_own (P := Tryd.prog) w 0 94 94 93 i0 (.agg #[.string ⟨#[]⟩, .string ⟨#[]⟩]) 2 32 Tryd.underlying94 hi hz0 hz1 hz2 rfl (by decide) _ _ _ h ⟨q, 0, none⟩ 1 1 [txt n, (txt v)] rfl hnews hone (by unfold maxLen; omega) (by omega) (by omega)
  refine ⟨u', w', hrun, ?_, hgr, push_where w u l.length (flat l) h ⟨q, 0, none⟩ _ rfl hnews hone (by omega) u' w' hrun⟩
  show w'.ownsRow 0 _ 2 u' (l ++ [(n, v)]).length (flat (l ++ [(n, v)]))
  rw [List.length_append, flat_app]
  exact ho
theorem step_append_run {P : Program} {ops : Array Oper} {o : Oper} {a : Act} {w : World} {K : Act → World → Prop} {Q : Exit → Act → World → Prop} {E : Prop} (hw : Region.wanted o (yielded ops a.tmps) = true) (s x : Operand) (t : TypeId)
    (ho : o.op = .call { callee := .builtin .append, args := #[s, x], argTypes := #[t, t] }) (v u v' : Value) (w' : World) (hs : a.eval s = v) (hx : a.eval x = u)
    (hrun : (Builtin.append_ #[t, t] o.type #[v, u]).run P w = .ok v' w') (h : K (a.put o.dst v') w') : if Region.wanted o (yielded ops a.tmps) = true then o.wp P a w K Q else E := by
  rw [if_pos hw]
  unfold Oper.wp execOp
  simp only [ho, resolve, invoke, builtin, Sem.run_bind, Sem.run_pure, Result.andThen_ok, List.map_toArray, List.map_cons, List.map_nil, hs, hx, hrun]
  exact h
/-- what a call that turns one table leaves alone -/
structure Upd (e : Bool) (g g' : Tg) (w w' : World) : Prop where
  keep : Keep (fun k => g k ≠ some (.tab e) ∧ ∀ i, g k ≠ some (.room e i)) w w'
  old : ∀ k, g k ≠ none → g' k = g k
  new : ∀ k, g' k ≠ none → g k ≠ none ∨ (w.heap.size ≤ k ∧ k < w'.heap.size)
theorem Upd.refl (e : Bool) (g : Tg) (w : World) : Upd e g g w w := ⟨Keep.refl _ _, fun _ _ => rfl, fun _ h => .inl h⟩
theorem Upd.below {e : Bool} {g : Tg} {w w' : World} (h : Below w.heap.size w w') : Upd e g g w w' := ⟨Keep.of_below h, fun _ _ => rfl, fun _ h => .inl h⟩
theorem Upd.trans {e : Bool} {g g1 g2 : Tg} {w w1 w2 : World} (h : Upd e g g1 w w1) (k : Upd e g1 g2 w1 w2) : Upd e g g2 w w2 where
  keep := ⟨k.keep.os.trans h.keep.os, k.keep.tape.trans h.keep.tape, k.keep.output.trans h.keep.output, Nat.le_trans h.keep.size k.keep.size, fun i hi hp => by
    refine (k.keep.block i (Nat.lt_of_lt_of_le hi h.keep.size) ?_).trans (h.keep.block i hi hp)
    by_cases hg : g i = none
    · have : g1 i = none := by
        cases h1 : g1 i with
        | none => rfl
        | some t =>
          rcases h.new i (by rw [h1]; simp) with h2 | h2
          · exact absurd hg h2
          · omega
      rw [this]
      exact ⟨by simp, fun _ => by simp⟩
    · rw [h.old i hg]
      exact hp⟩
  old := fun i hi => by rw [k.old i (by rw [h.old i hi]; exact hi), h.old i hi]
  new := fun i hi => by
    have s1 := h.keep.size
    have s2 := k.keep.size
    rcases k.new i hi with h1 | h1
    · rcases h.new i h1 with h2 | h2
      · exact .inl h2
      · exact .inr ⟨h2.1, by omega⟩
    · exact .inr ⟨by omega, h1.2⟩
theorem Upd.lt {e : Bool} {g g' : Tg} {w w' : World} {B : Nat} (h : Upd e g g' w w') (hlt : ∀ k, g k ≠ none → k < w.heap.size ∧ B ≤ k) (hB : B ≤ w.heap.size) : ∀ k, g' k ≠ none → k < w'.heap.size ∧ B ≤ k := fun k hk => by
  rcases h.new k hk with h1 | h1
  · exact ⟨Nat.lt_of_lt_of_le (hlt k h1).1 h.keep.size, (hlt k h1).2⟩
  · exact ⟨h1.2, by omega⟩
theorem Upd.env {e : Bool} {g g' : Tg} {w w' : World} {B : Nat} (h : Upd e g g' w w') (hE : Env B w) (hlt : ∀ k, g k ≠ none → k < w.heap.size ∧ B ≤ k) : Env B w' :=
  hE.turn (fun k hk => h.keep.block k (by have := hE.size; omega) (by
    have : g k = none := by
      cases h1 : g k with
      | none => rfl
      | some t => have := (hlt k (by rw [h1]; simp)).2; omega
    rw [this]
    exact ⟨by simp, fun _ => by simp⟩)) h.keep.size
/-- a room of a table turns, and its slice is stored -/
theorem TabIs.stored {w w' : World} {g : Tg} {e : Bool} {nb : Nat} {l : Tb Nm} (h : TabIs w g e nb l) (hlt : ∀ k, g k ≠ none → k < w.heap.size) (i : Nat) (hi : i < l.length) (u u' : Value) (m : Its Nm) (hu : w.cell? ⟨nb, i, none⟩ = some u) (hR : Room w' u' m)
    (hos : w'.os = w.os) (htp : w'.tape = w.tape) (hou : w'.output = w.output) (hs : w.heap.size ≤ w'.heap.size) (hk : ∀ k, k < w.heap.size → u.ownBlock ≠ some k → w'.heap[k]? = w.heap[k]?) (hwh : ∀ k, u'.ownBlock = some k → u.ownBlock = some k ∨ w.heap.size ≤ k) :
    ∃ g', TabIs (w'.setCell ⟨nb, i, none⟩ u') g' e nb (l.set i m) ∧ Upd e g g' w (w'.setCell ⟨nb, i, none⟩ u') := by
  have htag : g nb = some (.tab e) := by obtain ⟨_, _, _, t, _⟩ := h; exact t
  have hut : ∀ k, u.ownBlock = some k → g k = some (.room e i) := by
    obtain ⟨v, hv, _, _, hvt⟩ := h.room i hi
    rw [hu] at hv
    injection hv with hv
    rw [hv]
    exact hvt
  have hnb := hlt nb (by rw [htag]; simp)
  have hunb : u.ownBlock ≠ some nb := fun e => by
    have := hut nb e
    rw [htag] at this
    cases this
  have hgive : ∀ k, g k ≠ none → g.give u' (.room e i) k = g k := fun k hg => by
    by_cases hb : u'.ownBlock = some k
    · rw [g.give_own _ hb]
      rcases hwh k hb with h1 | h1
      · exact (hut k h1).symm
      · have := hlt k hg; omega
    · exact g.give_other _ hb
  have hu'nb : u'.ownBlock ≠ some nb := fun e => by
    rcases hwh nb e with h1 | h1
    · exact hunb h1
    · omega
  have hnw : w'.heap[nb]? = w.heap[nb]? := hk nb hnb hunb
  refine ⟨g.give u' (.room e i), h.set i u' m ?_ (hgive nb (by rw [htag]; simp)) ?_ (fun k hb => g.give_own _ hb) ?_, ⟨⟨?_, ?_, ?_, ?_, ?_⟩, hgive, ?_⟩⟩
  · intro rv hrv
    exact heap_setCell_same w' nb i rv _ u' (hnw.trans hrv)
  · exact hR.turn (fun k hb => heap_setCell_other _ _ _ _ (fun e => hu'nb (by rw [hb, e])))
  · intro k j hj hg
    refine ⟨(hgive k (by rw [hg]; simp)).trans hg, ?_⟩
    rw [heap_setCell_other _ _ _ _ (fun e => by rw [e, htag] at hg; cases hg)]
    exact hk k (hlt k (by rw [hg]; simp)) (fun e => by
      have := hut k e
      rw [hg] at this
      injection this with this
      injection this with _ this
      exact hj this)
  · exact hos
  · exact htp
  · exact hou
  · simpa using hs
  · intro k hkl hp
    rw [heap_setCell_other _ _ _ _ (fun e => hp.1 (by rw [e]; exact htag))]
    exact hk k hkl (fun e => hp.2 i (hut k e))
  · intro k hg
    by_cases hb : u'.ownBlock = some k
    · rcases hwh k hb with h1 | h1
      · exact .inl (by rw [hut k h1]; simp)
      · exact .inr ⟨h1, by simpa using hR.lt hb⟩
    · rw [g.give_other _ hb] at hg
      exact .inl hg
/-- a room of a table turns where it lies -/
theorem TabIs.inside {w w' : World} {g : Tg} {e : Bool} {nb : Nat} {l : Tb Nm} (h : TabIs w g e nb l) (hlt : ∀ k, g k ≠ none → k < w.heap.size) (i : Nat) (hi : i < l.length) (u : Value) (m : Its Nm) (hu : w.cell? ⟨nb, i, none⟩ = some u) (hR : Room w' u m)
    (hos : w'.os = w.os) (htp : w'.tape = w.tape) (hou : w'.output = w.output) (hs : w.heap.size ≤ w'.heap.size) (hk : ∀ k, k < w.heap.size → u.ownBlock ≠ some k → w'.heap[k]? = w.heap[k]?) :
    TabIs w' g e nb (l.set i m) ∧ Upd e g g w w' := by
  have htag : g nb = some (.tab e) := by obtain ⟨_, _, _, t, _⟩ := h; exact t
  have hut : ∀ k, u.ownBlock = some k → g k = some (.room e i) := by
    obtain ⟨v, hv, _, _, hvt⟩ := h.room i hi
    rw [hu] at hv
    injection hv with hv
    rw [hv]
    exact hvt
  have hnb := hlt nb (by rw [htag]; simp)
  have hunb : u.ownBlock ≠ some nb := fun e => by
    have := hut nb e
    rw [htag] at this
    cases this
  have hnw : w'.heap[nb]? = w.heap[nb]? := hk nb hnb hunb
  refine ⟨h.set i u m ?_ rfl hR hut ?_, ⟨⟨hos, htp, hou, hs, ?_⟩, fun _ _ => rfl, fun _ h => .inl h⟩⟩
  · intro rv hrv
    have hsame : rv.setIfInBounds i u = rv := by
      rw [cell_of_row w nb i _ _ _ hrv] at hu
      apply Array.ext_getElem?
      intro j
      by_cases hij : i = j
      · subst hij
        rw [Array.getElem?_setIfInBounds_self_of_lt (Array.getElem?_eq_some_iff.1 hu).1, hu]
      · rw [Array.getElem?_setIfInBounds_ne hij]
    rw [hsame]
    exact hnw.trans hrv
  · intro k j hj hg
    exact ⟨hg, hk k (hlt k (by rw [hg]; simp)) (fun e => by
      have := hut k e
      rw [hg] at this
      injection this with this
      injection this with _ this
      exact hj this)⟩
  · intro k hkl hp
    exact hk k hkl (fun e => hp.2 i (hut k e))
set_option maxHeartbeats 2000000 in
set_option maxRecDepth 100000 in
/-- add -/
theorem add_any {B : Nat} {w : World} {g : Tg} {nb : Nat} {l : Tb Nm} (h : TabIs w g false nb l) (hlt : ∀ k, g k ≠ none → k < w.heap.size ∧ B ≤ k) (hE : Env B w) (h0 : 0 < l.length) (hl : l.length ≤ 1000000) (hr : ∀ i (h : i < l.length), l[i].length ≤ 1000000) (n : Nm) (v : Nm) (hn : n.length ≤ 140737488351232) :
    Calls Tryd.prog 43 #[.slice (some ⟨nb, 0, none⟩) l.length l.length, .agg #[txt n, (txt v)]] w fun e w' => e = .returned (.tuple #[]) ∧ Hid (∃ g', TabIs w' g' false nb (add1 sumN l (n, v)) ∧ Upd false g g' w w') := by
  have hi : sumN n % l.length < l.length := Nat.mod_lt _ h0
  have hgd : l.getD (sumN n % l.length) [] = l[sumN n % l.length] := getD_at _ _ _ hi
  unfold add1
  rw [show ((n, v) : Nm × Nm).1 = n from rfl, hgd]
  have hbx := below_alloc w (.cells #[txt n, (txt v)] 93)
  have HR := hid (room_env nb l.length n _ (hE.below hbx hE.size) h0 hl hn)
  have HBX := hid hbx
  have HQ := hid (heap_alloc_new w (.cells #[txt n, (txt v)] 93))
  generalize hI : sumN n % l.length = i at *
  obtain ⟨u, hu, huf, hru, hut⟩ := h.room i hi
  have hnb := (hlt nb (by obtain ⟨_, _, _, e, _⟩ := h; rw [e]; simp)).1
  have HRI := hid (hr i hi)
  have HT := hid h
  have HU := hid hu
  have HRU := hid hru
  have HUT := hid hut
  have HLT := hid hlt
  have HNB := hid hnb
  have hsz : (w.alloc (.cells #[txt n, (txt v)] 93)).heap.size = w.heap.size + 1 := by simp
  have HSZ := hid hsz
  have hz1 := hi
  clear h hlt hE hr hu huf hru hut hgd hbx hI hsz
  have q0 : (w.alloc (.cells #[txt n, (txt v)] 93)).cell? ⟨w.heap.size, 0, none⟩ = some (txt n) := cell_of_row _ _ 0 _ _ _ HQ.out
  go_enter Tryd.func43, Tryd.ntmps43
  go_wp2_with fail
  refine HR.out.mono ?_; rintro e w1 ⟨rfl, hb⟩
  have HB1 := hid (HBX.out.trans (hb.out.mono (by have := HSZ.out; omega)))
  have hq1 := (hb.out.block w.heap.size (by have := HSZ.out; omega)).trans HQ.out
  have y0 : w1.cell? ⟨w.heap.size, 0, none⟩ = some (txt n) := cell_of_row _ _ 0 _ _ _ hq1
  have y1 : w1.cell? ⟨w.heap.size, 1, none⟩ = some (txt v) := cell_of_row _ _ 1 _ _ _ hq1
  have x0 := cell_turn HU.out (HB1.out.block nb HNB.out)
  have hs1 : w.heap.size + 1 ≤ w1.heap.size := by have := hb.out.size; have := HSZ.out; omega
  have hT1 : TabIs w1 g false nb l := HT.out.turn (fun k e => ⟨e, HB1.out.block k (HLT.out k (by rw [e]; simp)).1⟩) (fun k i e => ⟨e, HB1.out.block k (HLT.out k (by rw [e]; simp)).1⟩)
  have HB2 := hid ((below_alloc w1 (.cells #[txt n, (txt v)] 93)).drew)
  have hR2 := HRU.out.turn (w' := (w1.alloc (.cells #[txt n, (txt v)] 93)).drew) (fun k hk => (HB2.out.block k (Nat.lt_of_lt_of_le (HRU.out.lt hk) HB1.out.size)).trans (HB1.out.block k (HRU.out.lt hk)))
  obtain ⟨u', w', hrun, hR', hgr, hwh⟩ := hR2.push HRI.out n v w1.heap.size (heap_alloc_new w1 _)
  have HRun := hid hrun
  have HR' := hid hR'
  have HGR := hid hgr
  have HWH := hid hwh
  have HT1 := hid hT1
  have HUO : Hid (u.ownBlock ≠ some nb) := fun e => by
    have h1 := HUT.out nb e
    obtain ⟨_, _, _, h2, _⟩ := HT.out
    rw [h2] at h1
    cases h1
  have hn1 : nb < w1.heap.size := Nat.lt_of_lt_of_le HNB.out HB1.out.size
  have hnw : w'.heap[nb]? = w1.heap[nb]? := (hgr.block nb (by simp; omega) (fun e => HUO.out e.symm)).trans (HB2.out.block nb hn1)
  have HNW := hid hnw
  have z0 := cell_turn x0 hnw
  have zf : w'.frozen? ⟨nb, i, none⟩ = false := by
    obtain ⟨rv, a, _⟩ := hT1
    exact frozen_of_row w' nb i _ _ (hnw.trans a)
  have HK := hid (HT.out.stored (fun k hk => (HLT.out k hk).1) i hi u u' _ HU.out hR' (hgr.os.trans (HB2.out.os.trans HB1.out.os)) (hgr.tape.trans (HB2.out.tape.trans HB1.out.tape)) (hgr.output.trans (HB2.out.output.trans HB1.out.output))
    (Nat.le_trans HB1.out.size (Nat.le_trans HB2.out.size hgr.size)) (fun k hkl hne => (hgr.block k (Nat.lt_of_lt_of_le hkl (Nat.le_trans HB1.out.size HB2.out.size)) (fun e => hne e.symm)).trans ((HB2.out.block k (Nat.lt_of_lt_of_le hkl HB1.out.size)).trans (HB1.out.block k hkl)))
    (fun k hb => by
      rcases hwh with e | e
      · exact .inl (by rw [← e]; exact hb)
      · rw [e] at hb
        injection hb with hb
        refine .inr ?_
        simp at hb
        omega))
  obtain ⟨p, c, rfl⟩ := HRU.out.shape
  obtain ⟨p', c', rfl⟩ := hR'.shape
  generalize hM : (l[i] ++ [(n, v)]).length = M at *
  clear hrun hR' hgr hwh hT1 hnw hR2 hq1 HGR HWH HT1 HR' hM
  go_wp2_with fail
  go_region_law (first
    | (refine step_append_run rfl _ _ 94 rfl _ _ _ _ rfl rfl HRun.out ?_))
  all_goals go_wp2_with fail
  all_goals go_end0
  all_goals exact ⟨rfl, HK⟩

end Go.Proofs.YtphegggekcjenaaDoor.DS

namespace Go.Proofs.YtphegggekcjenaaDoor.DS
open Go.RowKit

theorem eq_none : ∀ w, (binOp .eql 86 (.slice none 0 0) (.slice none 0 0)).run Tryd.prog w = .ok (.bool true) w := fun w => Lib.run_eql_slice_nil (P := Tryd.prog) w 86 94 none 0 0 0 0 Tryd.underlying86
theorem eq_some (a : Addr) (n c : Nat) : ∀ w, (binOp .eql 86 (.slice (some a) n c) (.slice none 0 0)).run Tryd.prog w = .ok (.bool false) w := fun w => Lib.run_eql_slice_nil (P := Tryd.prog) w 86 94 (some a) n c 0 0 Tryd.underlying86
/-- what a call that turns a dict leaves alone -/
structure Turn (g g' : Tg) (w w' : World) : Prop where
  keep : Keep (fun k => g k = none) w w'
  new : ∀ k, g' k ≠ none → g k ≠ none ∨ w.heap.size ≤ k
theorem Turn.refl (g : Tg) (w : World) : Turn g g w w := ⟨Keep.refl _ _, fun _ h => .inl h⟩
theorem Turn.trans {g g1 g2 : Tg} {w w1 w2 : World} (h : Turn g g1 w w1) (k : Turn g1 g2 w1 w2) : Turn g g2 w w2 where
  keep := ⟨k.keep.os.trans h.keep.os, k.keep.tape.trans h.keep.tape, k.keep.output.trans h.keep.output, Nat.le_trans h.keep.size k.keep.size, fun i hi hp => by
    refine (k.keep.block i (Nat.lt_of_lt_of_le hi h.keep.size) ?_).trans (h.keep.block i hi hp)
    cases h1 : g1 i with
    | none => rfl
    | some t =>
      rcases h.new i (by rw [h1]; simp) with h2 | h2
      · exact absurd hp h2
      · omega⟩
  new := fun i hi => by
    rcases k.new i hi with h1 | h1
    · exact h.new i h1
    · exact .inr (Nat.le_trans h.keep.size h1)
theorem Upd.turn {e : Bool} {g g' : Tg} {w w' : World} (h : Upd e g g' w w') : Turn g g' w w' :=
  ⟨h.keep.mono (fun k hk => by rw [hk]; exact ⟨by simp, fun _ => by simp⟩), fun k hk => (h.new k hk).imp id (·.1)⟩
theorem Turn.below {g : Tg} {w w' : World} (h : Below w.heap.size w w') : Turn g g w w' := ⟨Keep.of_below h, fun _ h => .inl h⟩
theorem Turn.env {g g' : Tg} {w w' : World} {B : Nat} (h : Turn g g' w w') (hE : Env B w) (hlt : ∀ k, g k ≠ none → k < w.heap.size ∧ B ≤ k) : Env B w' :=
  hE.turn (fun k hk => h.keep.block k (by have := hE.size; omega) (by
    cases h1 : g k with
    | none => rfl
    | some t => have := (hlt k (by rw [h1]; simp)).2; omega)) h.keep.size
/-- the head alone turns -/
theorem Turn.head {g : Tg} {w w' : World} {b : Nat} (hb : g b ≠ none) (ho : ∀ k, k ≠ b → w'.heap[k]? = w.heap[k]?) (hs : w'.heap.size = w.heap.size) (h1 : w'.os = w.os) (h2 : w'.tape = w.tape) (h3 : w'.output = w.output) : Turn g g w w' :=
  ⟨⟨h1, h2, h3, by omega, fun k _ hk => ho k (fun e => hb (by rw [← e]; exact hk))⟩, fun _ h => .inl h⟩
theorem Lies.updN {B : Nat} {w w' : World} {g g' : Tg} {b nb : Nat} {ev : Value} {T : TM Nm} {many : Nat} (h : Lies B w g b nb ev T many) (u : Upd false g g' w w') (hB : B ≤ w.heap.size) {nw : Tb Nm} (hT : TabIs w' g' false nb nw) (hl : nw.length = T.nw.length) : Lies B w' g' b nb ev ⟨nw, T.el, T.tk⟩ many where
  head := by
    rw [u.keep.block b (h.lt b (by rw [h.tag]; simp)).1 (by rw [h.tag]; exact ⟨by simp, fun _ => by simp⟩), h.head]
    simp [headC, hl]
  tag := (u.old b (by rw [h.tag]; simp)).trans h.tag
  nw := hT
  el := h.el.turn (fun k e => ⟨(u.old k (by rw [e]; simp)).trans e, u.keep.block k (h.lt k (by rw [e]; simp)).1 (by rw [e]; exact ⟨by simp, fun _ => by simp⟩)⟩)
    (fun k i e => ⟨(u.old k (by rw [e]; simp)).trans e, u.keep.block k (h.lt k (by rw [e]; simp)).1 (by rw [e]; exact ⟨by simp, fun _ => by simp⟩)⟩)
  lt := u.lt h.lt hB
theorem Lies.updE {B : Nat} {w w' : World} {g g' : Tg} {b nb eb : Nat} {T : TM Nm} {many : Nat} (h : Lies B w g b nb (.slice (some ⟨eb, 0, none⟩) T.el.length T.el.length) T many) (u : Upd true g g' w w') (hB : B ≤ w.heap.size) {el : Tb Nm} (hT : TabIs w' g' true eb el) (hl : el.length = T.el.length) (hne : T.el ≠ []) : Lies B w' g' b nb (.slice (some ⟨eb, 0, none⟩) el.length el.length) ⟨T.nw, el, T.tk⟩ many where
  head := by
    rw [u.keep.block b (h.lt b (by rw [h.tag]; simp)).1 (by rw [h.tag]; exact ⟨by simp, fun _ => by simp⟩), h.head]
    simp [headC, hl]
  tag := (u.old b (by rw [h.tag]; simp)).trans h.tag
  nw := h.nw.turn (fun k e => ⟨(u.old k (by rw [e]; simp)).trans e, u.keep.block k (h.lt k (by rw [e]; simp)).1 (by rw [e]; exact ⟨by simp, fun _ => by simp⟩)⟩)
    (fun k i e => ⟨(u.old k (by rw [e]; simp)).trans e, u.keep.block k (h.lt k (by rw [e]; simp)).1 (by rw [e]; exact ⟨by simp, fun _ => by simp⟩)⟩)
  el := .inr ⟨eb, rfl, fun e => hne (List.eq_nil_of_length_eq_zero (by rw [← hl, show el = [] from e]; rfl)), hT⟩
  lt := u.lt h.lt hB
theorem Lies.rehead {B : Nat} {w w' : World} {g : Tg} {b nb : Nat} {ev ev' : Value} {T T' : TM Nm} {many many' : Nat} (h : Lies B w g b nb ev T many) (hb : w'.heap[b]? = some (.cells (headC nb ev' T' many') 88 (0, 0))) (ho : ∀ k, k ≠ b → w'.heap[k]? = w.heap[k]?) (hs : w'.heap.size = w.heap.size) (hn : T'.nw = T.nw) (hel : ElIs w g ev' T'.el) : Lies B w' g b nb ev' T' many' where
  head := hb
  tag := h.tag
  nw := by
    rw [hn]
    exact h.nw.turn (fun k e => ⟨e, ho k (fun e2 => by rw [e2, h.tag] at e; cases e)⟩) (fun k i e => ⟨e, ho k (fun e2 => by rw [e2, h.tag] at e; cases e)⟩)
  el := hel.turn (fun k e => ⟨e, ho k (fun e2 => by rw [e2, h.tag] at e; cases e)⟩) (fun k i e => ⟨e, ho k (fun e2 => by rw [e2, h.tag] at e; cases e)⟩)
  lt := fun k hk => by rw [hs]; exact h.lt k hk
set_option maxHeartbeats 2000000 in
set_option maxRecDepth 100000 in
/-- Step: there is one table -/
theorem step_none {B : Nat} {w : World} {g : Tg} {b nb : Nat} {T : TM Nm} {many : Nat} (h : Lies B w g b nb (.slice none 0 0) T many) :
    Calls Tryd.prog 41 #[.pointer (some ⟨b, 0, none⟩)] w fun e w' => e = .returned (.bool false) ∧ w' = w := by
  obtain ⟨_, c1, _, _⟩ := h.cells
  have k1 := eq_none
  clear h
  go_enter Tryd.func41, Tryd.ntmps41
  go_wp2
  go_ret
  exact ⟨rfl, rfl⟩
set_option maxHeartbeats 2000000 in
set_option maxRecDepth 100000 in
/-- Step: there are two -/
theorem step_some {B : Nat} {w : World} {g : Tg} {b nb eb : Nat} {T : TM Nm} {many : Nat} (h : Lies B w g b nb (.slice (some ⟨eb, 0, none⟩) T.el.length T.el.length) T many) (hT : TabIs w g true eb T.el) (hE : Env B w) (hF : Fit T) (hc : T.el.flatten.length + T.nw.flatten.length ≤ 1000000) (htk : T.tk < T.el.length) (hnm : ∀ x ∈ T.el[T.tk], x.1.length ≤ 140737488351232) :
    Calls Tryd.prog 41 #[.pointer (some ⟨b, 0, none⟩)] w fun e w' => e = .returned (.bool true) ∧ Hid (∃ g' ev', Lies B w' g' b nb ev' (tookT sumN T) many ∧ Turn g g' w w') := by
  obtain ⟨c0, c1, c2, c3⟩ := h.cells
  obtain ⟨u, hu, huf, hru, hut⟩ := hT.room T.tk htk
  have hrl : T.el[T.tk].length ≤ 1000000 := hF.rE T.tk htk
  have htN : T.el.length ≤ 1000000 := hF.eN
  have HH := hid h
  have HU := hid hu
  have HRU := hid hru
  have HUT := hid hut
  have HE := hid hE
  have HF := hid hF
  have HT := hid hT
  have HC := hid hc
  have HNM := hid hnm
  obtain ⟨p, c, rfl⟩ := hru.shape
  have htz : (T.tk : Int) < (T.el.length : Int) := by omega
  have htz2 : (T.tk : Int) + 1 ≤ 1000000 := by omega
  have k1 := eq_some ⟨eb, 0, none⟩ T.el.length T.el.length
  clear h hT hE hF hc hnm hru hut huf
  go_enter Tryd.func41, Tryd.ntmps41
  go_wp2_with fail
  go_region
  go_wp2_with fail
  go_loopw [4, 21] (fun _ v21 W => ∃ i : Nat, v21 = .int .i64 i ∧ i ≤ T.el[T.tk].length ∧ Hid (∃ g', Lies B W g' b nb (.slice (some ⟨eb, 0, none⟩) T.el.length T.el.length) ⟨adds sumN T.nw (T.el[T.tk].take i), T.el, T.tk⟩ many ∧ Upd false g g' w W)) (fun _ v21 _ => T.el[T.tk].length - (intOf v21).toNat)
  case atStart => exact ⟨0, rfl, Nat.zero_le _, g, HH.out.below (Below.refl _ w).drew, Upd.below (Below.refl _ w).drew⟩
  case round =>
    obtain ⟨i, rfl, hi, HI⟩ := hrel
    obtain ⟨g1, hL1, hU1⟩ := HI.out
    clear HI
    by_cases hlt : i < T.el[T.tk].length
    · have hlz : (i : Int) < (T.el[T.tk].length : Int) := by omega
      obtain ⟨gr, rfl, hcl⟩ := HRU.out.cells i hlt
      have hgr : wr.heap[gr]? = w.heap[gr]? := hU1.keep.block gr (HRU.out.lt rfl) (by rw [HUT.out gr rfl]; exact ⟨by simp, fun _ => by simp⟩)
      have x0 := cell_turn (hcl i hlt).1 hgr
      have x1 := cell_turn (hcl i hlt).2 hgr
      obtain ⟨y0, -⟩ := hL1.cells
      have HE1 := hid (hU1.env HE.out HH.out.lt)
      have HAl := hid (adds_len sumN (T.el[T.tk].take i) T.nw)
      have HAd := hid (adds_snoc sumN T.nw T.el[T.tk] i hlt)
      have HNi := hid (HNM.out T.el[T.tk][i] (List.getElem_mem _))
      have HRm : Hid (∀ j (hj : j < (adds sumN T.nw (T.el[T.tk].take i)).length), (adds sumN T.nw (T.el[T.tk].take i))[j].length ≤ 1000000) := fun j hj => by
        have := adds_room sumN T.nw (T.el[T.tk].take i) HF.out.n0 j hj
        have := room_len T.el T.tk htk
        have := HC.out
        have : (T.el[T.tk].take i).length ≤ T.el[T.tk].length := by rw [List.length_take]; omega
        omega
      have hbl : b < wr.heap.size := (hL1.lt b (by rw [hL1.tag]; simp)).1
      generalize T.el[T.tk][i] = x at *
      obtain ⟨n, v⟩ := x
      simp only at x0 x1 HNi HAd
      generalize hA : adds sumN T.nw (T.el[T.tk].take i) = A at *
      have HBA := hid (below_alloc wr (.cells #[txt n, (txt v)] 93)).drew
      have HL2 := hid (hL1.below HBA.out)
      have HU2 := hid (hU1.trans (Upd.below HBA.out))
      have HA2 := hid (add_any HL2.out.nw HL2.out.lt (HE1.out.below HBA.out HE1.out.size) (by rw [HAl.out]; exact HF.out.n0) (by rw [HAl.out]; exact HF.out.nN) HRm.out n v HNi.out)
      clear hcl hgr hL1 hU1 hA
      go_wp2_with fail
      go_region_law (go_simp; go_at_call 43; refine HA2.out.mono ?_; rintro e w3 ⟨rfl, hh⟩)
      all_goals go_wp2_with fail
      all_goals obtain ⟨g3, hT3, hU3⟩ := hh.out
      all_goals exact ⟨⟨i + 1, by go_num, by omega, g3, by rw [HAd.out]; exact HL2.out.updN hU3 (HE1.out.below HBA.out HE1.out.size).size hT3 (add1_len _ _ _), HU2.out.trans hU3⟩, by simp [intOf]; omega⟩
    · obtain rfl : i = T.el[T.tk].length := by omega
      rw [List.take_length] at hL1
      have HAl := hid (adds_len sumN T.el[T.tk] T.nw)
      have HTk : Hid (tookT sumN T = if T.tk + 1 = T.el.length then ⟨adds sumN T.nw T.el[T.tk], [], 0⟩ else ⟨adds sumN T.nw T.el[T.tk], T.el.set T.tk [], T.tk + 1⟩) := by
        unfold Hid tookT
        rw [getD_at _ _ _ htk]
      generalize adds sumN T.nw T.el[T.tk] = A at *
      have hT1 : TabIs wr g1 true eb T.el := by
        rcases hL1.el with ⟨e, _⟩ | ⟨eb', e, _, h⟩
        · cases e
        · injection e with e
          injection e with e
          injection e with e
          rw [e]; exact h
      have hne : ¬ eb = b := fun e => by
        obtain ⟨_, _, _, h2, _⟩ := hT1
        rw [e, hL1.tag] at h2
        cases h2
      obtain ⟨u1, z0, zf, _, _⟩ := hT1.room T.tk htk
      have HS := hid (hT1.stored (w' := wr.drew) (fun k hk => (hL1.lt k hk).1) T.tk htk u1 (.slice none 0 0) [] z0 (Room.nil _) rfl rfl rfl (Nat.le_refl _) (fun _ _ _ => rfl) (fun k h => by cases h))
      obtain ⟨y0, y1, y2, y3⟩ := hL1.cells
      have f1 := hL1.frozen 1
      have f2 := hL1.frozen 2
      have HL1 := hid hL1
      have HU1 := hid hU1
      have HE1 := hid (hU1.env HE.out HH.out.lt)
      clear hL1 hU1 hT1
      have hk2 : (T.tk : Int) + 1 = ((T.tk + 1 : Nat) : Int) := by omega
      have HK2 := hid hk2
      clear hk2
      have HLE : Hid (∃ g2, Lies B (wr.drew.setCell ⟨eb, T.tk, none⟩ (.slice none 0 0)) g2 b nb (.slice (some ⟨eb, 0, none⟩) T.el.length T.el.length) ⟨A, T.el.set T.tk [], T.tk⟩ many ∧ Turn g g2 w (wr.drew.setCell ⟨eb, T.tk, none⟩ (.slice none 0 0))) := by
        obtain ⟨g2, hT2, hU2⟩ := HS.out
        have := Lies.updE (T := ⟨A, T.el, T.tk⟩) HL1.out hU2 HE1.out.size hT2 (by simp) (fun e => by simp only at e; rw [e] at htk; simp at htk)
        rw [List.length_set] at this
        exact ⟨g2, this, HU1.out.turn.trans hU2.turn⟩
      clear HS
      by_cases hlast : T.tk + 1 = T.el.length
      · have hlz : ((T.tk : Int) + 1) = (T.el.length : Int) := by omega
        rw [if_pos hlast] at HTk
        go_wp2_with fail
        go_region
        all_goals go_wp2_with fail
        all_goals go_region
        all_goals go_wp2_with fail
        all_goals go_ret
        all_goals obtain ⟨g2, hL2, hT2⟩ := HLE.out
        all_goals refine ⟨rfl, g2, .slice none 0 0, ?_, hT2.trans (Turn.head (b := b) (by rw [hL2.tag]; simp) ?_ ?_ rfl rfl rfl)⟩
        · rw [HTk.out]
          exact hL2.rehead (heap_setCell_same _ b 2 _ _ _ (heap_setCell_same _ b 1 _ _ _ (heap_setCell_same _ b 2 _ _ _ hL2.head))) (fun k hk => by
            show (((_ : World).setCell _ _).setCell _ _).heap[k]? = _
            rw [heap_setCell_other _ _ _ _ hk, heap_setCell_other _ _ _ _ hk]
            show ((_ : World).setCell _ _).heap[k]? = _
            rw [heap_setCell_other _ _ _ _ hk]; rfl) (by simp) rfl (.inl ⟨rfl, rfl⟩)
        · intro k hk
          show (((_ : World).setCell _ _).setCell _ _).heap[k]? = _
          rw [heap_setCell_other _ _ _ _ hk, heap_setCell_other _ _ _ _ hk]
          show ((_ : World).setCell _ _).heap[k]? = _
          rw [heap_setCell_other _ _ _ _ hk]; rfl
        · simp
      · have hlz : (((T.tk : Int) + 1) == (T.el.length : Int)) = false := by rw [beq_eq_false_iff_ne]; omega
        rw [if_neg hlast] at HTk
        clear hlast hlt hi
        go_wp2_with fail
        go_region
        all_goals go_wp2_with fail
        all_goals go_region
        all_goals go_wp2_with fail
        all_goals go_ret
        all_goals obtain ⟨g2, hL2, hT2⟩ := HLE.out
        all_goals refine ⟨rfl, g2, .slice (some ⟨eb, 0, none⟩) T.el.length T.el.length, ?_, hT2.trans (Turn.head (b := b) (by rw [hL2.tag]; simp) ?_ ?_ rfl rfl rfl)⟩
        · rw [HTk.out]
          refine hL2.rehead (ev' := .slice (some ⟨eb, 0, none⟩) T.el.length T.el.length) (T' := ⟨A, T.el.set T.tk [], T.tk + 1⟩) ?_ (fun k hk => by
            show ((_ : World).setCell _ _).heap[k]? = _
            rw [heap_setCell_other _ _ _ _ hk]; rfl) (by simp) rfl hL2.el
          have := heap_setCell_same _ b 2 _ _ (.int .i64 ((T.tk : Int) + 1)) hL2.head
          rw [HK2.out] at this
          exact this
        · intro k hk
          show ((_ : World).setCell _ _).heap[k]? = _
          rw [heap_setCell_other _ _ _ _ hk]; rfl
        · simp
/-- Step -/
theorem step_any {B : Nat} {w : World} {g : Tg} {b nb : Nat} {ev : Value} {T : TM Nm} {many : Nat} (h : Lies B w g b nb ev T many) (hE : Env B w) (hF : Fit T) (hc : T.el.flatten.length + T.nw.flatten.length ≤ 1000000) (htk : (T.el = [] ∧ T.tk = 0) ∨ T.tk < T.el.length) (hnm : ∀ x ∈ T.el.flatten, x.1.length ≤ 140737488351232) :
    Calls Tryd.prog 41 #[.pointer (some ⟨b, 0, none⟩)] w fun e w' => e = .returned (.bool (decide (T.tk < T.el.length))) ∧ Hid (∃ g' ev', Lies B w' g' b nb ev' (if T.tk < T.el.length then tookT sumN T else T) many ∧ Turn g g' w w') := by
  rcases h.el with ⟨rfl, he⟩ | ⟨eb, rfl, hne, hT⟩
  · rw [if_neg (by rw [he]; simp), decide_eq_false (by rw [he]; simp)]
    exact (step_none h).mono fun e w' ⟨he, hw⟩ => ⟨he, by subst hw; exact ⟨g, _, h, Turn.refl _ _⟩⟩
  · have hk : T.tk < T.el.length := by
      rcases htk with ⟨e, _⟩ | h
      · exact absurd e hne
      · exact h
    rw [if_pos hk, decide_eq_true hk]
    exact step_some h hT hE hF hc hk (fun x hx => hnm x (List.mem_flatten.2 ⟨_, List.getElem_mem hk, hx⟩))

end Go.Proofs.YtphegggekcjenaaDoor.DS

namespace Go.Proofs.YtphegggekcjenaaDoor.DS
open Go.RowKit

theorem infoR : (Tryd.prog.info? 94).map (fun i => (i.zero, i.size, i.bytes)) = some (some (.slice none 0 0), 1, 24) := by kernel_rfl
theorem make_tab (n : Nat) (k : Int) (hk : k = n) (hn : n ≤ 1000000) (u : World) : (Instr.makeSlice 86 (.int .i64 k) (.int .i64 k)).run Tryd.prog u =
    .ok (.slice (some ⟨u.heap.size, 0, none⟩) n n) (u.alloc (.cells (List.replicate n (.slice none 0 0)).toArray 94)) := by
  subst hk
  obtain ⟨i0, hi, hz0, hz1, hz2⟩ := info_parts infoR
  have h := run_make (P := Tryd.prog) u 86 94 i0 (.slice none 0 0) Tryd.underlying86 hi hz0 .i64 .i64 (n : Int) (n : Int) (by omega) (Int.le_refl _) (by rw [hz2]; omega) (by omega)
  have e : madeCells (Value.slice none 0 0).cells n = (List.replicate n (.slice none 0 0)).toArray := by
    apply Array.ext'
    rw [show (Value.slice none 0 0).cells = #[Value.slice none 0 0] from rfl, toList_madeCells_one]
  rw [hz1, Nat.mul_one, Int.toNat_natCast, e] at h
  exact h
theorem TabIs.empty (w : World) (g : Tg) (e : Bool) (nb k : Nat) (h : w.heap[nb]? = some (.cells (List.replicate k (.slice none 0 0)).toArray 94 (0, 0))) (hg : g nb = some (.tab e)) : TabIs w g e nb (List.replicate k []) :=
  ⟨_, h, by simp, hg, fun i hi => ⟨.slice none 0 0, by simp at hi; simp [hi], by simpa using Room.nil w, fun k h => by cases h⟩⟩
theorem TabIs.retag {w w' : World} {g g' : Tg} {e e' : Bool} {nb : Nat} {l : Tb Nm} (h : TabIs w g e nb l) (h1 : ∀ k, g k = some (.tab e) → g' k = some (.tab e') ∧ w'.heap[k]? = w.heap[k]?) (h2 : ∀ k i, g k = some (.room e i) → g' k = some (.room e' i) ∧ w'.heap[k]? = w.heap[k]?) : TabIs w' g' e' nb l := by
  obtain ⟨rv, a, b, c, d⟩ := h
  refine ⟨rv, (h1 nb c).2.trans a, b, (h1 nb c).1, fun i hi => ?_⟩
  obtain ⟨u, x, y, z⟩ := d i hi
  exact ⟨u, x, y.turn (fun k hk => (h2 k i (z k hk)).2), fun k hk => (h2 k i (z k hk)).1⟩
set_option maxHeartbeats 2000000 in
set_option maxRecDepth 100000 in
/-- Len -/
theorem len_any {B : Nat} {w : World} {g : Tg} {b nb : Nat} {ev : Value} {T : TM Nm} {many : Nat} (h : Lies B w g b nb ev T many) :
    Calls Tryd.prog 29 #[.pointer (some ⟨b, 0, none⟩)] w fun e w' => e = .returned (.int .i64 many) ∧ w' = w := by
  obtain ⟨_, _, _, c3⟩ := h.cells
  clear h
  go_enter Tryd.func29, Tryd.ntmps29
  go_wp2
  go_ret
  exact ⟨rfl, rfl⟩
set_option maxHeartbeats 2000000 in
set_option maxRecDepth 100000 in
/-- New -/
theorem new_any (w : World) :
    Calls Tryd.prog 25 #[] w fun e w' => e = .returned (.pointer (some ⟨w.heap.size + 1, 0, none⟩)) ∧ Hid (w' = (w.alloc (.cells (List.replicate 4 (.slice none 0 0)).toArray 94)).alloc (.cells #[.slice (some ⟨w.heap.size, 0, none⟩) 4 4, .slice none 0 0, .int .i64 0, .int .i64 0] 88)) := by
  have k1 := make_tab 4 4 rfl (by omega)
  generalize (List.replicate 4 (Value.slice none 0 0)).toArray = Z at *
  go_enter Tryd.func25, Tryd.ntmps25
  go_wp2
  go_ret
  exact ⟨rfl, rfl⟩
def newT (m : Nat) : Tg := fun k => if k = m then some (.tab false) else if k = m + 1 then some .dict else none
theorem new_lies (B : Nat) (w : World) (hB : B ≤ w.heap.size) : Lies B ((w.alloc (.cells (List.replicate 4 (.slice none 0 0)).toArray 94)).alloc (.cells #[.slice (some ⟨w.heap.size, 0, none⟩) 4 4, .slice none 0 0, .int .i64 0, .int .i64 0] 88)) (newT w.heap.size) (w.heap.size + 1) w.heap.size (.slice none 0 0) ⟨List.replicate 4 [], [], 0⟩ 0 where
  head := heap_alloc2_new w _ _
  tag := by unfold newT; rw [if_neg (by omega), if_pos rfl]
  nw := TabIs.empty _ _ _ _ 4 (heap_alloc2_old w _ _) (if_pos rfl)
  el := .inl ⟨rfl, rfl⟩
  lt := fun k hk => by
    unfold newT at hk
    split at hk
    · simp; omega
    · split at hk
      · simp; omega
      · exact absurd rfl hk
set_option maxHeartbeats 2000000 in
set_option maxRecDepth 100000 in
/-- begin -/
theorem begin_run {B : Nat} {w : World} {g : Tg} {b nb : Nat} {T : TM Nm} {many : Nat} (h : Lies B w g b nb (.slice none 0 0) T many) (k : Nat) (hk : k ≤ 1000000) :
    Calls Tryd.prog 44 #[.pointer (some ⟨b, 0, none⟩), .int .i64 k] w fun e w' => e = .returned (.tuple #[]) ∧ Hid (w' = (((w.setCell ⟨b, 1, none⟩ (.slice (some ⟨nb, 0, none⟩) T.nw.length T.nw.length)).setCell ⟨b, 0, none⟩ (.slice (some ⟨w.heap.size, 0, none⟩) k k)).alloc (.cells (List.replicate k (.slice none 0 0)).toArray 94)).drew) := by
  have k1 := make_tab k k rfl hk
  obtain ⟨c0, c1, _, _⟩ := h.cells
  have f0 := h.frozen 0
  have f1 := h.frozen 1
  have hbl := (h.lt b (by rw [h.tag]; simp)).1
  generalize (List.replicate k (Value.slice none 0 0)).toArray = Z at *
  clear h
  go_enter Tryd.func44, Tryd.ntmps44
  go_wp2_with fail
  go_region
  all_goals go_wp2_with fail
  all_goals go_end0
  all_goals exact ⟨rfl, rfl⟩
/-- the newer table is the elder one -/
def Tg.next (g : Tg) (m : Nat) : Tg := fun k => if k = m then some (.tab false) else match g k with
  | some .dict => some .dict
  | some (.tab false) => some (.tab true)
  | some (.room false i) => some (.room true i)
  | _ => none
theorem Tg.next_some {g : Tg} {m k : Nat} (h : Tg.next g m k ≠ none) : k = m ∨ g k ≠ none := by
  unfold Tg.next at h
  split at h
  · exact .inl ‹_›
  · refine .inr (fun e => ?_)
    rw [e] at h
    exact h rfl
theorem begin_any {B : Nat} {w : World} {g : Tg} {b nb : Nat} {T : TM Nm} {many : Nat} (h : Lies B w g b nb (.slice none 0 0) T many) (hB : B ≤ w.heap.size) (h0 : T.nw ≠ []) (k : Nat) (hk : k ≤ 1000000) :
    Calls Tryd.prog 44 #[.pointer (some ⟨b, 0, none⟩), .int .i64 k] w fun e w' => e = .returned (.tuple #[]) ∧ Hid (∃ g' nb' ev', Lies B w' g' b nb' ev' ⟨List.replicate k [], T.nw, T.tk⟩ many ∧ Turn g g' w w') := by
  refine (begin_run h k hk).mono fun e w' ⟨he, hw⟩ => ⟨he, ?_⟩
  have hw : w' = _ := hw
  subst hw
  have hbl := (h.lt b (by rw [h.tag]; simp)).1
  have hlt : ∀ i, g i ≠ none → i ≠ w.heap.size := fun i hi e => by have := (h.lt i hi).1; omega
  have hother : ∀ i, i ≠ b → i < w.heap.size → ((((w.setCell ⟨b, 1, none⟩ (.slice (some ⟨nb, 0, none⟩) T.nw.length T.nw.length)).setCell ⟨b, 0, none⟩ (.slice (some ⟨w.heap.size, 0, none⟩) k k)).alloc (.cells (List.replicate k (.slice none 0 0)).toArray 94)).drew).heap[i]? = w.heap[i]? := fun i hi hil => by
    show (((w.setCell _ _).setCell _ _).alloc _).heap[i]? = _
    rw [heap_alloc_old _ _ (by simpa using hil), heap_setCell_other _ _ _ _ hi, heap_setCell_other _ _ _ _ hi]
  have hnb : ∀ i, g i = some (.tab false) → (Tg.next g w.heap.size) i = some (.tab true) ∧ ((((w.setCell ⟨b, 1, none⟩ (.slice (some ⟨nb, 0, none⟩) T.nw.length T.nw.length)).setCell ⟨b, 0, none⟩ (.slice (some ⟨w.heap.size, 0, none⟩) k k)).alloc (.cells (List.replicate k (.slice none 0 0)).toArray 94)).drew).heap[i]? = w.heap[i]? := fun i hi =>
    ⟨by unfold Tg.next; rw [if_neg (hlt i (by rw [hi]; simp)), hi], hother i (fun e => by rw [e, h.tag] at hi; cases hi) (h.lt i (by rw [hi]; simp)).1⟩
  refine ⟨Tg.next g w.heap.size, w.heap.size, .slice (some ⟨nb, 0, none⟩) T.nw.length T.nw.length, ⟨?_, ?_, ?_, .inr ⟨nb, rfl, h0, ?_⟩, ?_⟩, ⟨⟨rfl, rfl, rfl, by simp, fun i hi hg => hother i (fun e => by rw [e, h.tag] at hg; cases hg) hi⟩, fun i hi => ?_⟩⟩
  · show (((w.setCell _ _).setCell _ _).alloc _).heap[b]? = _
    rw [heap_alloc_old _ _ (by simpa using hbl)]
    have := heap_setCell_same _ b 0 _ _ (.slice (some ⟨w.heap.size, 0, none⟩) k k) (heap_setCell_same _ b 1 _ _ (.slice (some ⟨nb, 0, none⟩) T.nw.length T.nw.length) h.head)
    simpa [headC] using this
  · unfold Tg.next; rw [if_neg (by omega), h.tag]
  · refine TabIs.empty _ _ _ _ k ?_ (if_pos rfl)
    have := heap_alloc_new ((w.setCell ⟨b, 1, none⟩ (.slice (some ⟨nb, 0, none⟩) T.nw.length T.nw.length)).setCell ⟨b, 0, none⟩ (.slice (some ⟨w.heap.size, 0, none⟩) k k)) (.cells (List.replicate k (.slice none 0 0)).toArray 94)
    rwa [show ((w.setCell ⟨b, 1, none⟩ (.slice (some ⟨nb, 0, none⟩) T.nw.length T.nw.length)).setCell ⟨b, 0, none⟩ (.slice (some ⟨w.heap.size, 0, none⟩) k k)).heap.size = w.heap.size by simp] at this
  · exact h.nw.retag hnb (fun i j hi => ⟨by unfold Tg.next; rw [if_neg (hlt i (by rw [hi]; simp)), hi], hother i (fun e => by rw [e, h.tag] at hi; cases hi) (h.lt i (by rw [hi]; simp)).1⟩)
  · intro i hi
    rcases Tg.next_some hi with rfl | hi
    · simp; omega
    · have := h.lt i hi
      simp; omega
  · rcases Tg.next_some hi with rfl | hi
    · exact .inr (Nat.le_refl _)
    · exact .inl hi


end Go.Proofs.YtphegggekcjenaaDoor.DS

namespace Go.Proofs.YtphegggekcjenaaDoor.DS
open Go.RowKit

/-- a name's place: table e, in block tb, room i, place k -/
structure Spot (w : World) (g : Tg) (nb : Nat) (ev : Value) (T : TM Nm) (n : Nm) (e : Bool) (tb : Nat) (l : Tb Nm) (i k : Nat) : Prop where
  tab : TabIs w g e tb l
  hi : i < l.length
  hk : plc n (l[i]'hi) = some k
  is : (e = false ∧ tb = nb ∧ l = T.nw) ∨ (e = true ∧ ev = .slice (some ⟨tb, 0, none⟩) T.el.length T.el.length ∧ l = T.el ∧ T.el ≠ [])
theorem Fit.of {T : TM Nm} {D : DM Nm} (G : Good sumN T D) (hS : Small 100000 D) : Fit T where
  n0 := by have := G.npos; omega
  nN := by rw [G.rooms]; have := hS.rooms; omega
  eN := by have := G.elN; have := G.rooms; have := hS.rooms; omega
  rN := fun i hi => by have := G.roomN i hi; have := hS.len; omega
  rE := fun i hi => by have := G.roomE i hi; have := hS.len; omega
theorem find_cases {B : Nat} {w : World} {g : Tg} {b nb : Nat} {ev : Value} {T : TM Nm} {D : DM Nm} {many : Nat} (h : Lies B w g b nb ev T many) (G : Good sumN T D) (hE : Env B w) (hF : Fit T) (n : Nm) (hn : n.length ≤ 140737488351232) :
    (∃ e tb l i k, Spot w g nb ev T n e tb l i k ∧ Calls Tryd.prog 42 #[.pointer (some ⟨b, 0, none⟩), txt n] w fun e w' => e = .returned (.tuple #[.pointer (some ⟨tb, i, none⟩), .int .i64 (k : Nat)]) ∧ Hid (Below w.heap.size w w')) ∨
    (hasL n D.L = false ∧ ∃ q : Addr, Calls Tryd.prog 42 #[.pointer (some ⟨b, 0, none⟩), txt n] w fun e w' => e = .returned (.tuple #[.pointer (some q), .int .i64 (-1)]) ∧ Hid (Below w.heap.size w w')) := by
  have hi : sumN n % T.nw.length < T.nw.length := Nat.mod_lt _ hF.n0
  cases hp : plc n T.nw[sumN n % T.nw.length] with
  | some k => exact .inl ⟨false, nb, T.nw, _, k, ⟨h.nw, hi, hp, .inl ⟨rfl, rfl, rfl⟩⟩, find_new h hE hF n hn _ hi rfl k hp⟩
  | none =>
    rcases h.el with ⟨rfl, he⟩ | ⟨eb, rfl, hne, hT⟩
    · refine .inr ⟨G.lacks n (fun _ => plc_none hp) (fun hj => by rw [he] at hj; simp at hj), _, find_one h hE hF n hn _ hi rfl hp⟩
    · have hj : sumN n % T.el.length < T.el.length := Nat.mod_lt _ (Nat.pos_of_ne_zero (fun e => hne (List.eq_nil_of_length_eq_zero e)))
      have hf := find_two h hT hE hF n hn _ hi rfl hp _ hj rfl
      cases hq : plc n T.el[sumN n % T.el.length] with
      | some k =>
        rw [plcI_some hq] at hf
        exact .inl ⟨true, eb, T.el, _, k, ⟨hT, hj, hq, .inr ⟨rfl, rfl, rfl, hne⟩⟩, hf⟩
      | none =>
        rw [plcI_none hq] at hf
        exact .inr ⟨G.lacks n (fun _ => plc_none hp) (fun _ => plc_none hq), _, hf⟩
/-- what is there -/
theorem Spot.found {w : World} {g : Tg} {nb : Nat} {ev : Value} {T : TM Nm} {D : DM Nm} {n : Nm} {e : Bool} {tb : Nat} {l : Tb Nm} {i k : Nat} (s : Spot w g nb ev T n e tb l i k) (G : Good sumN T D) (hS : Small 100000 D) :
    ∃ (v : Nm) (c gr : Nat), (∃ hk : k < (l[i]'s.hi).length, (l[i]'s.hi)[k] = (n, v)) ∧ l[i]'s.hi = (l[i]'s.hi).take k ++ (n, v) :: (l[i]'s.hi).drop (k + 1) ∧ (l[i]'s.hi).length ≤ 100000 ∧ hasL n D.L = true ∧ getL n D.L = some v ∧
      w.cell? ⟨tb, i, none⟩ = some (.slice (some ⟨gr, 0, none⟩) (l[i]'s.hi).length c) ∧ Room w (.slice (some ⟨gr, 0, none⟩) (l[i]'s.hi).length c) (l[i]'s.hi) ∧ g tb ≠ none ∧ g gr ≠ none ∧ w.cell? ⟨gr, k * 2 + 1, none⟩ = some (txt v) ∧ w.frozen? ⟨gr, k * 2 + 1, none⟩ = false ∧ w.frozen? ⟨tb, i, none⟩ = false ∧ ¬ tb = gr := by
  obtain ⟨v, hk, h1, h2⟩ := plc_some s.hk
  obtain ⟨u, hu, hf, hR, hut⟩ := s.tab.room i s.hi
  obtain ⟨p, c, rfl⟩ := hR.shape
  obtain ⟨gr, rfl, hc⟩ := hR.cells k hk
  have hlen : (l[i]'s.hi).length ≤ D.L.length := by
    rcases s.is with ⟨_, _, rfl⟩ | ⟨_, _, rfl, _⟩
    · exact G.roomN i s.hi
    · exact G.roomE i s.hi
  have hh : hasL n D.L = true ∧ getL n D.L = some v := by
    rcases s.is with ⟨_, _, rfl⟩ | ⟨_, _, rfl, _⟩
    · exact (G.foundN s.hi h2).2
    · exact (G.foundE s.hi h2).2
  have htb : g tb = some (.tab e) := by obtain ⟨_, _, _, t, _⟩ := s.tab; exact t
  have hgr := hut gr rfl
  refine ⟨v, c, gr, ⟨hk, h1⟩, h2, Nat.le_trans hlen hS.len, hh.1, hh.2, hu, hR, by rw [htb]; simp, by rw [hgr]; simp, ?_, ?_, hf, fun e => by rw [e, hgr] at htb; cases htb⟩
  · have := (hc k hk).2
    rwa [h1] at this
  · rcases hR.2 with ⟨e, _⟩ | ⟨g', cap, cur, e, _, hg, _⟩
    · cases e
    · injection e with e
      injection e with e
      injection e with e
      rw [e]
      exact frozen_of_row w g' _ _ _ hg
set_option maxHeartbeats 2000000 in
set_option maxRecDepth 100000 in
/-- Get -/
theorem get_any {B : Nat} {w : World} {g : Tg} {b nb : Nat} {ev : Value} {T : TM Nm} {D : DM Nm} {many : Nat} (h : Lies B w g b nb ev T many) (G : Good sumN T D) (hE : Env B w) (hS : Small 100000 D) (n : Nm) (hn : n.length ≤ 140737488351232) :
    Calls Tryd.prog 27 #[.pointer (some ⟨b, 0, none⟩), txt n] w fun e w' => e = .returned (.tuple #[(txt ((getL n D.L).getD [])), .bool (getL n D.L).isSome]) ∧ Hid (Below w.heap.size w w') := by
  rcases find_cases h G hE (Fit.of G hS) n hn with ⟨e, tb, l, i, k, s, hf⟩ | ⟨hno, q, hf⟩
  · obtain ⟨v, c, gr, ⟨hk, h1⟩, -, hlen, -, hget, hu, -, htb, hgr, hv, -⟩ := s.found G hS
    rw [hget]
    have HF := hid hf
    have HU := hid hu
    have HV := hid hv
    have HTB := hid (h.lt tb htb).1
    have HGR := hid (h.lt gr hgr).1
    have hkz : (k : Int) < ((l[i]'s.hi).length : Int) := by omega
    clear h1
    generalize (l[i]'s.hi).length = m at *
    have hml : (m : Int) ≤ 100000 := by omega
    clear hf hu hv htb hgr hget hk h G hE s
    show Calls Tryd.prog 27 _ w fun e w' => e = .returned (.tuple #[(txt v), .bool true]) ∧ _
    go_enter Tryd.func27, Tryd.ntmps27
    go_wp2_with fail
    refine HF.out.mono ?_; rintro e w1 ⟨rfl, hb⟩
    have x0 := cell_turn HU.out (hb.out.block tb HTB.out)
    have x1 := cell_turn HV.out (hb.out.block gr HGR.out)
    go_wp2_with fail
    go_ret2
    exact ⟨rfl, hb⟩
  · rw [getL_none.2 hno]
    have HF := hid hf
    clear hf hno h G hE
    show Calls Tryd.prog 27 _ w fun e w' => e = .returned (.tuple #[(txt ([])), .bool false]) ∧ _
    go_enter Tryd.func27, Tryd.ntmps27
    go_wp2_with fail
    refine HF.out.mono ?_; rintro e w1 ⟨rfl, hb⟩
    go_wp2_with fail
    go_ret2
    exact ⟨rfl, hb⟩

end Go.Proofs.YtphegggekcjenaaDoor.DS

namespace Go.Proofs.YtphegggekcjenaaDoor.DS
open Go.RowKit

theorem put_len_has {L : Its Nm} (hs : Srt L) {n : Nm} (h : hasL n L = true) (v : Nm) : (put1 n v false L).length = L.length ∧ (delL n L).length + 1 = L.length := by
  obtain ⟨v0, hm⟩ := hasL_mem.1 h
  obtain ⟨a, b, rfl⟩ := List.append_of_mem hm
  have hp := (perm_del (R := a ++ b) hs List.perm_middle.symm).1.length_eq
  have hq := (put1_perm n v (a ++ (n, v0) :: b)).length_eq
  simp at hp hq ⊢
  omega
theorem put_len_not {L : Its Nm} {n : Nm} (h : hasL n L = false) (v : Nm) : (put1 n v false L).length = L.length + 1 := by
  rw [(put1_perm n v L).length_eq, del_none h]
  rfl
/-- a value is stored -/
theorem Room.put {w : World} {gr m c : Nat} {l : Its Nm} (h : Room w (.slice (some ⟨gr, 0, none⟩) m c) l) (a b : Its Nm) (n : Nm) (v0 v : Nm) (e : l = a ++ (n, v0) :: b) : Room (w.setCell ⟨gr, a.length * 2 + 1, none⟩ (txt v)) (.slice (some ⟨gr, 0, none⟩) m c) (a ++ (n, v) :: b) := by
  subst e
  rcases h.2 with ⟨e, _⟩ | ⟨g, cap, cur, e, h0, hg, hn, hm, hs, ht⟩
  · cases e
  · injection e with e e2 e3
    injection e with e
    injection e with e
    subst e e2 e3
    refine ⟨by rw [flat_len], .inr ⟨gr, c, cur.setIfInBounds (a.length * 2 + 1) (txt v), ?_, h0, heap_setCell_same w gr _ _ _ _ hg, by simpa using hn, hm, by simpa using hs, ?_⟩⟩
    · simp
    · rw [Array.toList_setIfInBounds, List.take_set]
      have e1 : (a ++ (n, v) :: b).length = (a ++ (n, v0) :: b).length := by simp
      rw [e1, ht, flat_put]
/-- what a call at a name's place does to the dict -/
theorem Spot.turned {B : Nat} {w w' : World} {g g' : Tg} {b nb : Nat} {ev : Value} {T : TM Nm} {n : Nm} {e : Bool} {tb : Nat} {l : Tb Nm} {i k : Nat} {many : Nat} (s : Spot w g nb ev T n e tb l i k) (h : Lies B w g b nb ev T many) (hB : B ≤ w.heap.size) (m : Its Nm) (ht : TabIs w' g' e tb (l.set i m)) (hu : Upd e g g' w w') :
    Lies B w' g' b nb ev (if e then ⟨T.nw, T.el.set i m, T.tk⟩ else ⟨T.nw.set i m, T.el, T.tk⟩) many := by
  rcases s.is with ⟨rfl, rfl, rfl⟩ | ⟨rfl, rfl, rfl, hne⟩
  · exact h.updN hu hB ht (by simp)
  · have := h.updE hu hB ht (by simp) hne
    rw [List.length_set] at this
    exact this
theorem Spot.good_put {w : World} {g : Tg} {nb : Nat} {ev : Value} {T : TM Nm} {D : DM Nm} {n : Nm} {e : Bool} {tb : Nat} {l : Tb Nm} {i k : Nat} (s : Spot w g nb ev T n e tb l i k) (G : Good sumN T D) {a b : Its Nm} {v0 : Nm} (he : l[i]'s.hi = a ++ (n, v0) :: b) (v : Nm) :
    Good sumN (if e then ⟨T.nw, T.el.set i (a ++ (n, v) :: b), T.tk⟩ else ⟨T.nw.set i (a ++ (n, v) :: b), T.el, T.tk⟩) ⟨put1 n v false D.L, D.rooms, D.left⟩ := by
  rcases s.is with ⟨rfl, rfl, rfl⟩ | ⟨rfl, rfl, rfl, hne⟩
  · exact G.putN s.hi he v
  · exact G.putE s.hi he v
theorem Spot.good_del {w : World} {g : Tg} {nb : Nat} {ev : Value} {T : TM Nm} {D : DM Nm} {n : Nm} {e : Bool} {tb : Nat} {l : Tb Nm} {i k : Nat} (s : Spot w g nb ev T n e tb l i k) (G : Good sumN T D) {a b : Its Nm} {v0 : Nm} (he : l[i]'s.hi = a ++ (n, v0) :: b) :
    Good sumN (if e then ⟨T.nw, T.el.set i (a ++ b), T.tk⟩ else ⟨T.nw.set i (a ++ b), T.el, T.tk⟩) ⟨delL n D.L, D.rooms, D.left⟩ := by
  rcases s.is with ⟨rfl, rfl, rfl⟩ | ⟨rfl, rfl, rfl, hne⟩
  · exact G.delN s.hi he
  · exact G.delE s.hi he
/-- a dict behind the first half of a call: a table may be begun yet -/
structure Half (B : Nat) (w : World) (b : Nat) (g g0 : Tg) (w0 : World) (nb : Nat) (ev : Value) (D : DM Nm) (T : TM Nm) : Prop where
  lies : Lies B w g b nb ev T D.L.length
  good : Good sumN T D
  env : Env B w
  turn : Turn g0 g w0 w
theorem Half.ev {B : Nat} {w : World} {b : Nat} {g g0 : Tg} {w0 : World} {nb : Nat} {ev : Value} {D : DM Nm} {T : TM Nm} (h : Half B w b g g0 w0 nb ev D T) : (ev = .slice none 0 0 ∧ T.el = []) ∨ ∃ eb n c, ev = .slice (some ⟨eb, 0, none⟩) n c ∧ T.el ≠ [] := by
  rcases h.lies.el with h | ⟨eb, h1, h2, _⟩
  · exact .inl h
  · exact .inr ⟨eb, _, _, h1, h2⟩
theorem Half.below {B : Nat} {w w' : World} {b : Nat} {g g0 : Tg} {w0 : World} {nb : Nat} {ev : Value} {D : DM Nm} {T : TM Nm} (h : Half B w b g g0 w0 nb ev D T) (hb : Below w.heap.size w w') : Half B w' b g g0 w0 nb ev D T :=
  ⟨h.lies.below hb, h.good, h.env.below hb h.env.size, h.turn.trans (Turn.below hb)⟩
theorem Spot.below {B : Nat} {w w' : World} {g : Tg} {b nb : Nat} {ev : Value} {T : TM Nm} {n : Nm} {e : Bool} {tb : Nat} {l : Tb Nm} {i k many : Nat} (s : Spot w g nb ev T n e tb l i k) (h : Lies B w g b nb ev T many) (hb : Below w.heap.size w w') : Spot w' g nb ev T n e tb l i k :=
  ⟨s.tab.turn (fun k e => ⟨e, hb.block k (h.lt k (by rw [e]; simp)).1⟩) (fun k i e => ⟨e, hb.block k (h.lt k (by rw [e]; simp)).1⟩), s.hi, s.hk, s.is⟩
/-- the second half of Put: another table is begun -/
theorem Half.grows {B : Nat} {w : World} {b : Nat} {g g0 : Tg} {w0 : World} {nb : Nat} {D : DM Nm} {T : TM Nm} (h : Half B w b g g0 w0 nb (.slice none 0 0) D T) (hS : Small 200000 D) (hl : D.rooms < D.L.length) (X : Int) (hX : X = (2 * D.rooms : Nat)) :
    Calls Tryd.prog 44 #[.pointer (some ⟨b, 0, none⟩), .int .i64 X] w fun e w' => e = .returned (.tuple #[]) ∧ Hid (∃ g' nb' ev' T', Half B w' b g' g0 w0 nb' ev' (grow D) T') := by
  have he : T.el = [] := by
    rcases h.ev with ⟨_, e⟩ | ⟨_, _, _, e, _⟩
    · exact e
    · cases e
  rw [hX]
  refine (begin_any h.lies h.env.size (fun e => by have := h.good.npos; rw [e] at this; simp at this) (2 * D.rooms) (by have := hS.len; omega)).mono fun e w' ⟨he', hh⟩ => ⟨he', ?_⟩
  obtain ⟨g', nb', ev', hL, hT⟩ := hh.out
  refine ⟨g', nb', ev', _, ?_, h.good.grown he hl, hT.env h.env h.lies.lt, h.turn.trans hT⟩
  rw [grow_L]
  exact hL
theorem Half.shrinks {B : Nat} {w : World} {b : Nat} {g g0 : Tg} {w0 : World} {nb : Nat} {D : DM Nm} {T : TM Nm} (h : Half B w b g g0 w0 nb (.slice none 0 0) D T) (hS : Small 200000 D) (h4 : 4 < D.rooms) (hl : 4 * D.L.length < D.rooms) (X : Int) (hX : X = (D.rooms / 2 : Nat)) :
    Calls Tryd.prog 44 #[.pointer (some ⟨b, 0, none⟩), .int .i64 X] w fun e w' => e = .returned (.tuple #[]) ∧ Hid (∃ g' nb' ev' T', Half B w' b g' g0 w0 nb' ev' (shrink D) T') := by
  have he : T.el = [] := by
    rcases h.ev with ⟨_, e⟩ | ⟨_, _, _, e, _⟩
    · exact e
    · cases e
  rw [hX]
  refine (begin_any h.lies h.env.size (fun e => by have := h.good.npos; rw [e] at this; simp at this) (D.rooms / 2) (by have := hS.rooms; omega)).mono fun e w' ⟨he', hh⟩ => ⟨he', ?_⟩
  obtain ⟨g', nb', ev', hL, hT⟩ := hh.out
  refine ⟨g', nb', ev', _, ?_, h.good.shrunk he h4 hl, hT.env h.env h.lies.lt, h.turn.trans hT⟩
  rw [shrink_L]
  exact hL
theorem Half.stays {B : Nat} {w : World} {b : Nat} {g g0 : Tg} {w0 : World} {nb : Nat} {ev : Value} {D : DM Nm} {T : TM Nm} (h : Half B w b g g0 w0 nb ev D T) (hn : ¬ (T.el = [] ∧ D.rooms < D.L.length)) : ∃ g' nb' ev' T', Half B w b g' g0 w0 nb' ev' (grow D) T' :=
  ⟨g, nb, ev, T, by rw [grow_L]; exact h.lies, h.good.stay hn, h.env, h.turn⟩
theorem Half.staysS {B : Nat} {w : World} {b : Nat} {g g0 : Tg} {w0 : World} {nb : Nat} {ev : Value} {D : DM Nm} {T : TM Nm} (h : Half B w b g g0 w0 nb ev D T) (hn : ¬ (T.el = [] ∧ 4 < D.rooms ∧ 4 * D.L.length < D.rooms)) : ∃ g' nb' ev' T', Half B w b g' g0 w0 nb' ev' (shrink D) T' :=
  ⟨g, nb, ev, T, by rw [shrink_L]; exact h.lies, h.good.stayS hn, h.env, h.turn⟩
/-- the first call of both: Step -/
theorem Half.step {B : Nat} {w : World} {b : Nat} {g g0 : Tg} {w0 : World} {nb : Nat} {ev : Value} {D : DM Nm} {T : TM Nm} (h : Half B w b g g0 w0 nb ev D T) (hS : Small 100000 D) (hnm : ∀ x ∈ D.L, x.1.length ≤ 140737488351232) :
    Calls Tryd.prog 41 #[.pointer (some ⟨b, 0, none⟩)] w fun e w' => e = .returned (.bool (stepB D)) ∧ Hid (∃ g' ev' T', Half B w' b g' g0 w0 nb ev' (stepD D) T') := by
  have hc := h.good.count
  have hb : decide (T.tk < T.el.length) = stepB D := by
    unfold stepB
    have h1 := h.good.left
    rcases h.good.tk with ⟨e1, e2⟩ | e
    · rw [e1, e2] at h1 ⊢
      rw [h1]; rfl
    · rw [decide_eq_true e, decide_eq_true (by omega)]
  rw [← hb]
  refine (step_any h.lies h.env (Fit.of h.good hS) (by have := hS.len; omega) h.good.tk (fun x hx => hnm x (h.good.perm.mem_iff.1 (List.mem_append_left _ hx)))).mono fun e w' ⟨he, hh⟩ => ⟨he, ?_⟩
  obtain ⟨g', ev', hL, hT⟩ := hh.out
  refine ⟨g', ev', _, hL, ?_, hT.env h.env h.lies.lt, h.turn.trans hT⟩
  split
  · exact h.good.took ‹_›
  · refine h.good.rest ?_
    rcases h.good.tk with ⟨e, _⟩ | e
    · exact e
    · exact absurd e ‹_›

end Go.Proofs.YtphegggekcjenaaDoor.DS

namespace Go.Proofs.YtphegggekcjenaaDoor.DS
open Go.RowKit

/-- a value is another one -/
theorem Half.put {B : Nat} {w : World} {b : Nat} {g g0 : Tg} {w0 : World} {nb : Nat} {ev : Value} {D : DM Nm} {T : TM Nm} (h : Half B w b g g0 w0 nb ev D T) {n : Nm} {e : Bool} {tb : Nat} {l : Tb Nm} {i k : Nat} (s : Spot w g nb ev T n e tb l i k) (v v0 : Nm) (gr c : Nat) (hu : w.cell? ⟨tb, i, none⟩ = some (.slice (some ⟨gr, 0, none⟩) (l[i]'s.hi).length c)) (hR : Room w (.slice (some ⟨gr, 0, none⟩) (l[i]'s.hi).length c) (l[i]'s.hi))
    (hk : k < (l[i]'s.hi).length) (he : l[i]'s.hi = (l[i]'s.hi).take k ++ (n, v0) :: (l[i]'s.hi).drop (k + 1)) : ∃ T', Half B (w.setCell ⟨gr, k * 2 + 1, none⟩ (txt v)) b g g0 w0 nb ev ⟨put1 n v false D.L, D.rooms, D.left⟩ T' := by
  have hkl : ((l[i]'s.hi).take k).length = k := by rw [List.length_take]; omega
  have hR' := hR.put _ _ n v0 v he
  rw [hkl] at hR'
  obtain ⟨ht, hup⟩ := s.tab.inside (fun j hj => (h.lies.lt j hj).1) i s.hi _ _ hu hR' rfl rfl rfl (by simp) (fun j _ hj => heap_setCell_other _ _ _ _ (fun e => hj (by rw [e]; rfl)))
  have hL := s.turned h.lies h.env.size _ ht hup
  have hG := s.good_put h.good he v
  have hhas : hasL n D.L = true := by
    rcases s.is with ⟨_, _, rfl⟩ | ⟨_, _, rfl, _⟩
    · exact (h.good.foundN s.hi he).2.1
    · exact (h.good.foundE s.hi he).2.1
  refine ⟨_, ?_, hG, hup.turn.env h.env h.lies.lt, h.turn.trans hup.turn⟩
  rw [show (DM.mk (put1 n v false D.L) D.rooms D.left).L.length = D.L.length from (put_len_has h.good.srt hhas v).1]
  exact hL
/-- a new name -/
theorem Half.add {B : Nat} {w w' : World} {b : Nat} {g g' g0 : Tg} {w0 : World} {nb : Nat} {ev : Value} {D : DM Nm} {T : TM Nm} (h : Half B w b g g0 w0 nb ev D T) {n : Nm} (v : Nm) (hn : hasL n D.L = false) (ht : TabIs w' g' false nb (add1 sumN T.nw (n, v))) (hup : Upd false g g' w w') :
    Lies B w' g' b nb ev ⟨add1 sumN T.nw (n, v), T.el, T.tk⟩ D.L.length ∧ Half B (w'.setCell ⟨b, 3, none⟩ (.int .i64 ((D.L.length : Int) + 1))) b g' g0 w0 nb ev ⟨put1 n v false D.L, D.rooms, D.left⟩ ⟨add1 sumN T.nw (n, v), T.el, T.tk⟩ := by
  have hL := h.lies.updN hup h.env.size ht (add1_len _ _ _)
  have hi : sumN n % T.nw.length < T.nw.length := Nat.mod_lt _ (by have := h.good.npos; omega)
  have hG := h.good.add hi hn v
  rw [← getD_at _ [] _ hi] at hG
  have hlt := hup.lt h.lies.lt h.env.size
  have ho : ∀ k, k ≠ b → (w'.setCell ⟨b, 3, none⟩ (.int .i64 ((D.L.length : Int) + 1))).heap[k]? = w'.heap[k]? := fun k hk => heap_setCell_other _ _ _ _ hk
  have hT := Turn.head (g := g') (w' := w'.setCell ⟨b, 3, none⟩ (.int .i64 ((D.L.length : Int) + 1))) (b := b) (by rw [hL.tag]; simp) ho (by simp) rfl rfl rfl
  refine ⟨hL, hL.rehead ?_ ho (by simp) rfl hL.el, hG, hT.env (hup.turn.env h.env h.lies.lt) hlt, (h.turn.trans hup.turn).trans hT⟩
  have h1 := heap_setCell_same _ b 3 _ _ (.int .i64 ((D.L.length : Int) + 1)) hL.head
  have h2 : ((put1 n v false D.L).length : Int) = (D.L.length : Int) + 1 := by have := put_len_not hn v; omega
  simpa [headC, h2] using h1
set_option maxHeartbeats 4000000 in
set_option maxRecDepth 100000 in
/-- Put: the name is there -/
theorem put_has {B : Nat} {w : World} {b : Nat} {g : Tg} {nb : Nat} {ev : Value} {D : DM Nm} {T : TM Nm} (h : Half B w b g g w nb ev D T) (hS : Small 100000 D) (hnm : ∀ x ∈ D.L, x.1.length ≤ 140737488351232) (n : Nm) (v : Nm) (hn : n.length ≤ 140737488351232) (hyes : hasL n D.L = true) :
    Calls Tryd.prog 26 #[.pointer (some ⟨b, 0, none⟩), txt n, (txt v)] w fun e w' => e = .returned (.bool (hasL n D.L)) ∧ Hid (∃ g' nb' ev' T', Half B w' b g' g w nb' ev' (putD D n v) T') := by
  have HS := hid (h.step hS hnm)
  have HS1 := hid (hS.step)
  have HSm := hid ((Small.put (hS.step) n v).mono (show 100001 ≤ 200000 by omega))
  show Calls Tryd.prog 26 _ w fun e w' => e = .returned (.bool (hasL n (stepD D).L)) ∧ Hid (∃ g' nb' ev' T', Half B w' b g' g w nb' ev' (grow ⟨put1 n v false (stepD D).L, (stepD D).rooms, (stepD D).left⟩) T')
  have HSm : Hid (Small 200000 (DM.mk (put1 n v false (stepD D).L) (stepD D).rooms (stepD D).left)) := by
    have h1 := HS1.out
    have h2 := put1_len n v false (stepD D).L
    exact ⟨by have := h1.len; simp only; omega, by have := h1.rooms; simp only; omega, by have := h1.left; simp only; omega⟩
  have HYes : Hid (hasL n (stepD D).L = true) := hyes
  clear hyes
  generalize stepD D = D1 at *
  clear h hS hnm
  go_enter Tryd.func26, Tryd.ntmps26
  go_wp2_with fail
  refine HS.out.mono ?_; rintro e w1 ⟨rfl, hh⟩
  obtain ⟨g1, ev1, T1, h1⟩ := hh.out
  clear hh HS
  have hlen := HS1.out.len
  have hrooms := HS1.out.rooms
  have hR1 := h1.good.rooms
  rcases find_cases h1.lies h1.good h1.env (Fit.of h1.good HS1.out) n hn with ⟨e, tb, l, i, k, s, hf⟩ | ⟨hno, q, hf⟩
  · have HF := hid hf
    have H1 := hid h1
    have HSp := hid s
    clear hf s h1
    go_wp2_with fail
    refine HF.out.mono ?_; rintro e w2 ⟨rfl, hb⟩
    have h2 := H1.out.below hb.out
    have s2 := HSp.out.below H1.out.lies hb.out
    obtain ⟨v0, c, gr, ⟨hk, -⟩, he, hll, hhas, -, hu, hR, -, hgr, x1, xf, -, -⟩ := s2.found h2.good HS1.out
    obtain ⟨T2, hX⟩ := h2.put s2 v v0 gr c hu hR hk he
    have HX := hid hX
    obtain ⟨c0, c1, _, c3⟩ := h2.lies.cells
    have hgb : ¬ gr = b := fun e => by
      rw [e] at hu
      have := h2.lies.head
      rcases hR.2 with ⟨e', _⟩ | ⟨g', cap, cur, e', _, hg, _⟩
      · cases e'
      · injection e' with e'
        injection e' with e'
        injection e' with e'
        rw [← e', e, this] at hg
        injection hg with hg
        injection hg with _ hg _
        revert hg
        decide
    have hkz : (k : Int) < ((l[i]'s2.hi).length : Int) := by omega
    have HHas := hid hhas
    have HRm := hid hX.good.rooms
    have HNw := hid (put_len_has h2.good.srt hhas v).1
    generalize hm : (l[i]'s2.hi).length = m at hkz hu hll
    have hml : (m : Int) ≤ 100000 := by omega
    clear h2 s2 he hk hR hX hhas hm
    generalize hN : T1.nw.length = N at *
    generalize hM : D1.L.length = M at *
    have hNz : (N : Int) ≤ 200004 := by omega
    have hMz : (M : Int) ≤ 100000 := by omega
    rcases HX.out.ev with ⟨rfl, he⟩ | ⟨eb, en, ec, rfl, hne⟩
    · have k1 := eq_none
      by_cases hgt : N < M
      · have hgz : (N : Int) < (M : Int) := by omega
        have HG := hid (HX.out.grows HSm.out (by simp only; rw [HNw.out]; omega) (2 * (N : Int)) (by simp only; omega))
        clear hgt hlen hrooms hR1
        go_wp2_with fail
        refine HG.out.mono ?_; rintro e w9 ⟨rfl, hh9⟩
        go_wp2_with fail
        go_ret
        exact ⟨by rw [HHas.out]; rfl, hh9⟩
      · have hgz : ¬ (N : Int) < (M : Int) := by omega
        have HG := hid (HX.out.stays (fun e => hgt (by have := e.2; simp only at this; rw [HNw.out] at this; omega)))
        clear hgt hlen hrooms hR1
        go_wp2_with fail
        go_ret
        exact ⟨by rw [HHas.out]; rfl, HG⟩
    · have k1 := eq_some ⟨eb, 0, none⟩ en ec
      have HG := hid (HX.out.stays (fun e => hne e.1))
      clear hlen hrooms hR1
      go_wp2_with fail
      go_ret
      exact ⟨by rw [HHas.out]; rfl, HG⟩
  · rw [HYes.out] at hno; cases hno

end Go.Proofs.YtphegggekcjenaaDoor.DS

namespace Go.Proofs.YtphegggekcjenaaDoor.DS
open Go.RowKit

set_option maxHeartbeats 4000000 in
set_option maxRecDepth 100000 in
/-- Put: the name is new -/
theorem put_not {B : Nat} {w : World} {b : Nat} {g : Tg} {nb : Nat} {ev : Value} {D : DM Nm} {T : TM Nm} (h : Half B w b g g w nb ev D T) (hS : Small 100000 D) (hnm : ∀ x ∈ D.L, x.1.length ≤ 140737488351232) (n : Nm) (v : Nm) (hn : n.length ≤ 140737488351232) (hyes : hasL n D.L = false) :
    Calls Tryd.prog 26 #[.pointer (some ⟨b, 0, none⟩), txt n, (txt v)] w fun e w' => e = .returned (.bool (hasL n D.L)) ∧ Hid (∃ g' nb' ev' T', Half B w' b g' g w nb' ev' (putD D n v) T') := by
  have HS := hid (h.step hS hnm)
  have HS1 := hid (hS.step)
  have HSm := hid ((Small.put (hS.step) n v).mono (show 100001 ≤ 200000 by omega))
  show Calls Tryd.prog 26 _ w fun e w' => e = .returned (.bool (hasL n (stepD D).L)) ∧ Hid (∃ g' nb' ev' T', Half B w' b g' g w nb' ev' (grow ⟨put1 n v false (stepD D).L, (stepD D).rooms, (stepD D).left⟩) T')
  have HSm : Hid (Small 200000 (DM.mk (put1 n v false (stepD D).L) (stepD D).rooms (stepD D).left)) := by
    have h1 := HS1.out
    have h2 := put1_len n v false (stepD D).L
    exact ⟨by have := h1.len; simp only; omega, by have := h1.rooms; simp only; omega, by have := h1.left; simp only; omega⟩
  have HYes : Hid (hasL n (stepD D).L = false) := hyes
  clear hyes
  generalize stepD D = D1 at *
  clear h hS hnm
  go_enter Tryd.func26, Tryd.ntmps26
  go_wp2_with fail
  refine HS.out.mono ?_; rintro e w1 ⟨rfl, hh⟩
  obtain ⟨g1, ev1, T1, h1⟩ := hh.out
  clear hh HS
  have hlen := HS1.out.len
  have hrooms := HS1.out.rooms
  have HR1 := hid h1.good.rooms
  rcases find_cases h1.lies h1.good h1.env (Fit.of h1.good HS1.out) n hn with ⟨e, tb, l, i, k, s, hf⟩ | ⟨hno, q, hf⟩
  · obtain ⟨_, _, _, _, _, _, hhas, _⟩ := s.found h1.good HS1.out
    rw [HYes.out] at hhas; cases hhas
  · have HF := hid hf
    have H1 := hid h1
    have HNo := hid hno
    clear hf h1 hno
    go_wp2_with fail
    refine HF.out.mono ?_; rintro e w2 ⟨rfl, hb⟩
    have h2 := H1.out.below hb.out
    have hFt := Fit.of h2.good HS1.out
    have HA := hid (add_any h2.lies.nw h2.lies.lt h2.env hFt.n0 hFt.nN hFt.rN n v hn)
    obtain ⟨c0, c1, _, c3⟩ := h2.lies.cells
    have H2 := hid h2
    clear h2 hFt
    go_wp2_with fail
    refine HA.out.mono ?_; rintro e w3 ⟨rfl, hh⟩
    obtain ⟨g3, ht3, hu3⟩ := hh.out
    obtain ⟨hL3, hX⟩ := H2.out.add v HNo.out ht3 hu3
    have HX := hid hX
    obtain ⟨d0, d1, _, d3⟩ := hL3.cells
    rw [show (TM.mk (add1 sumN T1.nw (n, v)) T1.el T1.tk).nw.length = T1.nw.length from add1_len _ _ _] at d0
    have f3 := hL3.frozen 3
    have HRm := hid hX.good.rooms
    have HNw := hid (put_len_not HNo.out v)
    clear hh hL3 hX ht3 hu3 HA
    generalize hN : T1.nw.length = N at *
    generalize hM : D1.L.length = M at *
    have hNz : (N : Int) ≤ 200004 := by have := HR1.out; omega
    have hMz : (M : Int) ≤ 100000 := by omega
    rcases HX.out.ev with ⟨rfl, he⟩ | ⟨eb, en, ec, rfl, hne⟩
    · have k1 := eq_none
      by_cases hgt : N < M + 1
      · have hgz : (N : Int) < ((M : Int) + 1) := by omega
        have HG := hid (HX.out.grows HSm.out (by have := HR1.out; simp only; rw [HNw.out]; omega) (2 * (N : Int)) (by have := HR1.out; simp only; omega))
        clear hgt hlen hrooms
        go_wp2_with fail
        refine HG.out.mono ?_; rintro e w9 ⟨rfl, hh9⟩
        go_wp2_with fail
        go_ret
        exact ⟨by rw [HNo.out]; rfl, hh9⟩
      · have hgz : ¬ (N : Int) < ((M : Int) + 1) := by omega
        have HG := hid (HX.out.stays (fun e => hgt (by have := e.2; have := HR1.out; simp only at *; rw [HNw.out] at *; omega)))
        clear hgt hlen hrooms
        go_wp2_with fail
        go_ret
        exact ⟨by rw [HNo.out]; rfl, HG⟩
    · have k1 := eq_some ⟨eb, 0, none⟩ en ec
      have HG := hid (HX.out.stays (fun e => hne e.1))
      clear hlen hrooms
      go_wp2_with fail
      go_ret
      exact ⟨by rw [HNo.out]; rfl, HG⟩

end Go.Proofs.YtphegggekcjenaaDoor.DS

namespace Go.Proofs.YtphegggekcjenaaDoor.DS
open Go.RowKit

/-- Put -/
theorem put_any {B : Nat} {w : World} {b : Nat} {g : Tg} {nb : Nat} {ev : Value} {D : DM Nm} {T : TM Nm} (h : Half B w b g g w nb ev D T) (hS : Small 100000 D) (hnm : ∀ x ∈ D.L, x.1.length ≤ 140737488351232) (n : Nm) (v : Nm) (hn : n.length ≤ 140737488351232) :
    Calls Tryd.prog 26 #[.pointer (some ⟨b, 0, none⟩), txt n, (txt v)] w fun e w' => e = .returned (.bool (hasL n D.L)) ∧ Hid (∃ g' nb' ev' T', Half B w' b g' g w nb' ev' (putD D n v) T') := by
  cases hh : hasL n D.L with
  | true => rw [← hh]; exact put_has h hS hnm n v hn hh
  | false => rw [← hh]; exact put_not h hS hnm n v hn hh

end Go.Proofs.YtphegggekcjenaaDoor.DS

namespace Go.Proofs.YtphegggekcjenaaDoor.DS
open Go.RowKit

/-- a table that may be read -/
def TabV (w : World) (p : Option Addr) (l : Tb Nm) : Prop := ∀ r (h : r < l.length), ∃ nb u, p = some ⟨nb, 0, none⟩ ∧ nb < w.heap.size ∧ w.cell? ⟨nb, r, none⟩ = some u ∧ Room w u l[r]
theorem TabIs.tabV {w : World} {g : Tg} {e : Bool} {nb : Nat} {l : Tb Nm} (h : TabIs w g e nb l) : TabV w (some ⟨nb, 0, none⟩) l := fun r hr => by
  obtain ⟨u, h1, _, h2, _⟩ := h.room r hr
  refine ⟨nb, u, rfl, ?_, h1, h2⟩
  obtain ⟨rv, a, _⟩ := h
  exact (Array.getElem?_eq_some_iff.1 a).1
theorem ElIs.tabV {w : World} {g : Tg} {ev : Value} {l : Tb Nm} (h : ElIs w g ev l) : ∃ p c, ev = .slice p l.length c ∧ TabV w p l := by
  rcases h with ⟨rfl, rfl⟩ | ⟨eb, rfl, _, h⟩
  · exact ⟨none, 0, rfl, fun r hr => by simp at hr⟩
  · exact ⟨_, _, rfl, h.tabV⟩
/-- one more text behind, in a row that was made -/
theorem pushS {B : Nat} {W : World} {gN m d : Nat} {A : Row} (h : Own B W (.slice (some ⟨gN, 0, none⟩) m d) A) (hB : B ≤ W.heap.size) (t : List UInt8) (hl : A.length ≤ 900000) :
    ∃ g' d' W', (Builtin.append_ #[40, 40] 40 #[.slice (some ⟨gN, 0, none⟩) m d, .slice (some ⟨W.heap.size, 0, none⟩) 1 1]).run Tryd.prog (W.alloc (.cells #[txt t] 9)) = .ok (.slice (some ⟨g', 0, none⟩) (m + 1) d') W' ∧ Own B W' (.slice (some ⟨g', 0, none⟩) (m + 1) d') (A ++ [t]) ∧ Below B W W' := by
  obtain ⟨v', W', h1, h2, h3⟩ := h.push hB t hl
  have hm : m = A.length := by
    rcases h.2 with ⟨e, _⟩ | ⟨g', cap, cur, e, _⟩
    · cases e
    · injection e
  rcases h2.2 with ⟨_, e⟩ | ⟨g', cap, cur, rfl, _⟩
  · simp at e
  · have e : (A ++ [t]).length = m + 1 := by simp [hm]
    rw [e] at h1 h2
    exact ⟨g', cap, W', h1, h2, h3⟩
theorem names_len (l : Its Nm) : (namesL l).length = l.length := by simp [namesL]
theorem names_app (a b : Its Nm) : namesL (a ++ b) = namesL a ++ namesL b := by simp [namesL]
theorem names_takeV {l : Its Nm} {i : Nat} (h : i < l.length) : namesL (l.take (i + 1)) = namesL (l.take i) ++ [l[i].1] := by
  rw [List.take_succ_eq_append_getElem h, names_app]; rfl
theorem flat_takeV {l : Tb Nm} {i : Nat} (h : i < l.length) : namesL (l.take (i + 1)).flatten = namesL (l.take i).flatten ++ namesL l[i] := by
  rw [List.take_succ_eq_append_getElem h, List.flatten_append, names_app]; simp
/-- the names so far -/
def upTo (T : TM Nm) : Nat → Row
  | 0 => []
  | 1 => namesL T.el.flatten
  | _ => namesL T.el.flatten ++ namesL T.nw.flatten
theorem flat_part {l : Tb Nm} (i : Nat) : (l.take i).flatten.length ≤ l.flatten.length := by
  have : l.flatten = (l.take i).flatten ++ (l.drop i).flatten := by rw [← List.flatten_append, List.take_append_drop]
  rw [this, List.length_append]
  omega
theorem part_room {l : Tb Nm} (i : Nat) (hi : i < l.length) (q : Nat) : (l.take i).flatten.length + (l[i].take q).length ≤ l.flatten.length := by
  have h1 := flat_part (l := l) (i + 1)
  rw [List.take_succ_eq_append_getElem hi, List.flatten_append, List.length_append] at h1
  simp at h1 ⊢
  omega
theorem make_row (w : World) (B c : Nat) (hB : B ≤ w.heap.size) (hc : c ≤ 1000000) : ∃ w', (Instr.makeSlice 40 (.int .i64 0) (.int .i64 (c : Int))).run Tryd.prog w = .ok (.slice (some ⟨w.heap.size, 0, none⟩) 0 c) w' ∧ Own B w' (.slice (some ⟨w.heap.size, 0, none⟩) 0 c) [] ∧ Below B w w' := by
  obtain ⟨i0, hi, hz0, hz1, hz2⟩ := info_parts infoS
  obtain ⟨w', h1, h2, h3⟩ := run_make_own (P := Tryd.prog) w B 40 9 i0 (.string ⟨#[]⟩) 1 Tryd.underlying40 hi hz0 hz1 .i64 .i64 c (by rw [hz2]; omega) (by unfold maxLen; omega) hB
  exact ⟨w', h1, h2, (Below.refl B w).grown h3 hB (fun k hk => by cases hk)⟩
theorem pick0 (a b : Option Addr) (n c m d : Nat) : ∀ w, (Instr.index 96 (.agg #[.slice a n c, .slice b m d]) (.int .i64 (0 : Nat))).run Tryd.prog w = .ok (.slice a n c) w := by
  intro w
  kernel_rfl
theorem pick1 (a b : Option Addr) (n c m d : Nat) : ∀ w, (Instr.index 96 (.agg #[.slice a n c, .slice b m d]) (.int .i64 (1 : Nat))).run Tryd.prog w = .ok (.slice b m d) w := by
  intro w
  kernel_rfl
set_option maxHeartbeats 4000000 in
set_option maxRecDepth 100000 in
/-- Names, ahead of the sort and behind it -/
theorem names_run {B : Nat} {w : World} {g : Tg} {b nb : Nat} {ev : Value} {T : TM Nm} {many : Nat} (h : Lies B w g b nb ev T many) (hF : Fit T) (hm : many = T.el.flatten.length + T.nw.flatten.length) (hml : many ≤ 100000) :
    Calls Tryd.prog 28 #[.pointer (some ⟨b, 0, none⟩)] w fun e w' => ∃ q c, e = .returned (.slice (some q) many c) ∧ Hid (Own w.heap.size w' (.slice (some q) many c) (srtR (upTo T 2)) ∧ Below w.heap.size w w') := by
  obtain ⟨w1, hmk, hO1, hB1⟩ := make_row w w.heap.size many (Nat.le_refl _) (by omega)
  obtain ⟨_, _, _, c3⟩ := h.cells
  obtain ⟨d0, d1, _, _⟩ := (h.below hB1).cells
  obtain ⟨p, c, rfl, hE⟩ := h.el.tabV
  have HE := hid hE
  have HN := hid h.nw.tabV
  have HO1 := hid hO1
  have HB1 := hid hB1
  have HF := hid hF
  have HM := hid hm
  have hnN := hF.nN
  have heN := hF.eN
  have hmz : (many : Int) ≤ 100000 := by omega
  clear h hF hO1 hB1 hE hm
  go_enter Tryd.func28, Tryd.ntmps28
  go_wp2_with fail
  go_region
  go_wp2_with fail
  go_loopw [3, 24] (fun v3 v24 W => ∃ (j m gN d : Nat) (A : Row), v24 = .int .i64 j ∧ v3 = .slice (some ⟨gN, 0, none⟩) m d ∧ j ≤ 2 ∧ Hid (A = upTo T j) ∧ Hid (m = A.length) ∧ Hid (Own w.heap.size W (.slice (some ⟨gN, 0, none⟩) m d) A) ∧ Hid (Below w.heap.size w W)) (fun _ v24 _ => 2 - (intOf v24).toNat)
  case atStart => exact ⟨0, 0, w.heap.size, many, [], rfl, rfl, by omega, rfl, rfl, HO1.out, HB1.out.drew⟩
  case round =>
    obtain ⟨j, m, gN, d, A, rfl, rfl, hj, HA, Hm, HO, HW⟩ := hrel
    by_cases hlt : j < 2
    · have hlz : (j : Int) < 2 := by omega
      obtain ⟨P2, C2, L, hpick, hTV, hup, hLN, hLc⟩ : ∃ (P2 : Option Addr) (C2 : Nat) (L : Tb Nm), (∀ w, (Instr.index 96 (.agg #[.slice p T.el.length c, .slice (some ⟨nb, 0, none⟩) T.nw.length T.nw.length]) (.int .i64 j)).run Tryd.prog w = .ok (.slice P2 L.length C2) w) ∧ TabV w P2 L ∧ upTo T (j + 1) = upTo T j ++ namesL L.flatten ∧ L.length ≤ 1000000 ∧ (upTo T j).length + L.flatten.length ≤ 100000 := by
        have hM := HM.out
        rcases (show j = 0 ∨ j = 1 by omega) with rfl | rfl
        · exact ⟨p, c, T.el, pick0 _ _ _ _ _ _, HE.out, by simp [upTo], heN, by simp only [upTo, List.length_nil]; omega⟩
        · exact ⟨_, _, T.nw, pick1 _ _ _ _ _ _, HN.out, by simp [upTo], hnN, by simp only [upTo, names_len]; omega⟩
      have HTV := hid hTV
      have HUp := hid hup
      have HLc := hid hLc
      have hLz : (L.length : Int) ≤ 1000000 := by omega
      clear hTV hup hLc hLN hnN heN hj hlt
      go_wp2_with fail
      go_loopw [3, 29] (fun v3 v29 W => ∃ (r m gN d : Nat) (A : Row), v29 = .int .i64 r ∧ v3 = .slice (some ⟨gN, 0, none⟩) m d ∧ r ≤ L.length ∧ Hid (A = upTo T j ++ namesL (L.take r).flatten) ∧ Hid (m = A.length) ∧ Hid (Own w.heap.size W (.slice (some ⟨gN, 0, none⟩) m d) A) ∧ Hid (Below w.heap.size w W)) (fun _ v29 _ => L.length - (intOf v29).toNat)
      case atStart => exact ⟨0, m, gN, d, A, rfl, rfl, Nat.zero_le _, by unfold Hid; rw [HA.out]; simp [namesL], Hm, HO.out, HW.out⟩
      case round =>
        obtain ⟨r, m, gN, d, A, rfl, rfl, hr, HA, Hm, HO, HW⟩ := hrel
        by_cases hrl : r < L.length
        · have hrz : (r : Int) < (L.length : Int) := by omega
          obtain ⟨tb, u, rfl, htb, hu, hR⟩ := HTV.out r hrl
          obtain ⟨pu, cu, rfl⟩ := hR.shape
          have x0 := cell_turn hu (HW.out.block tb htb)
          have HR := hid hR
          have HFl := hid (flat_takeV hrl)
          have HPr := hid (fun q => part_room (l := L) r hrl q)
          have hRl : L[r].length ≤ 100000 := by have := part_room (l := L) r hrl L[r].length; have := HLc.out; simp at *; omega
          have hRz : (L[r].length : Int) ≤ 100000 := by omega
          clear hu hR htb
          go_wp2_with fail
          go_loopw [3, 35] (fun v3 v35 W => ∃ (q m gN d : Nat) (A : Row), v35 = .int .i64 q ∧ v3 = .slice (some ⟨gN, 0, none⟩) m d ∧ q ≤ L[r].length ∧ Hid (A = upTo T j ++ namesL (L.take r).flatten ++ namesL (L[r].take q)) ∧ Hid (m = A.length) ∧ Hid (Own w.heap.size W (.slice (some ⟨gN, 0, none⟩) m d) A) ∧ Hid (Below w.heap.size w W)) (fun _ v35 _ => L[r].length - (intOf v35).toNat)
          case atStart => exact ⟨0, m, gN, d, A, rfl, rfl, Nat.zero_le _, by unfold Hid; rw [HA.out]; simp [namesL], Hm, HO.out, HW.out⟩
          case round =>
            obtain ⟨q, m, gN, d, A, rfl, rfl, hq, HA, Hm, HO, HW⟩ := hrel
            by_cases hql : q < L[r].length
            · have hqz : (q : Int) < (L[r].length : Int) := by omega
              obtain ⟨gr, rfl, hcl⟩ := HR.out.cells q hql
              have hgr := HW.out.block gr (HR.out.lt rfl)
              have y0 := cell_turn (hcl q hql).1 hgr
              have y1 := cell_turn (hcl q hql).2 hgr
              have HNx := hid (names_takeV hql)
              have hmz2 : m ≤ 900000 := by
                have h1 := HPr.out q
                have h2 := HLc.out
                rw [Hm.out, HA.out]
                simp only [List.length_append, names_len]
                omega
              generalize L[r][q] = x at *
              obtain ⟨n, v⟩ := x
              simp only at y0 y1 HNx
              have hba := below_alloc wr (.cells #[txt n, (txt v)] 93)
              have hws := Nat.le_trans HW.out.size hba.size
              obtain ⟨g', d', W', hrun, hO', hB'⟩ := pushS (owns_below HO.out hba) hws n (by rw [← Hm.out]; exact hmz2)
              have hsz1 : (wr.alloc (.cells #[txt n, (txt v)] 93)).heap.size = wr.heap.size + 1 := by simp
              rw [hsz1] at hrun
              have HRun := hid hrun
              have HO' := hid hO'
              have HW' := hid ((HW.out.trans (hba.mono HW.out.size)).trans hB')
              clear hcl hgr hba hws hrun hO' hB' hsz1
              go_wp2_with (refine wpList_append_runs rfl _ _ 40 40 rfl _ _ _ _ rfl rfl HRun.out (Hid.out ?_))
              refine hid ?_
              go_wp2_with fail
              exact ⟨⟨q + 1, m + 1, g', d', A ++ [n], by go_num, rfl, by omega, by unfold Hid; rw [HNx.out, HA.out]; simp, by unfold Hid; rw [Hm.out]; simp, HO'.out, HW'.out⟩, by simp [intOf]; omega⟩
            · obtain rfl : q = L[r].length := by omega
              rw [List.take_length] at HA
              go_wp2_with fail
              exact ⟨⟨r + 1, m, gN, d, A, by go_num, rfl, by omega, by unfold Hid; rw [HFl.out, HA.out]; simp, Hm, HO.out, HW.out⟩, by simp [intOf]; omega⟩
        · obtain rfl : r = L.length := by omega
          rw [List.take_length] at HA
          go_wp2_with fail
          exact ⟨⟨j + 1, m, gN, d, A, by go_num, rfl, by omega, by unfold Hid; rw [HUp.out, HA.out], Hm, HO.out, HW.out⟩, by simp [intOf]; omega⟩
    · obtain rfl : j = 2 := by omega
      have hmm : m = many := by rw [Hm.out, HA.out, HM.out]; simp only [upTo, List.length_append, names_len]
      have HSo := hid (sort_any HO.out HW.out.size (by rw [← Hm.out, hmm]; omega) Hm.out)
      rw [HA.out] at HSo
      subst hmm
      go_wp2_with fail
      refine HSo.out.mono ?_; rintro e w9 ⟨rfl, hh⟩
      go_wp2_with fail
      go_ret
      exact ⟨⟨gN, 0, none⟩, d, rfl, hh.out.1, HW.out.trans hh.out.2⟩

end Go.Proofs.YtphegggekcjenaaDoor.DS

namespace Go.Proofs.YtphegggekcjenaaDoor.DS
open Go.RowKit

/-- a dict in block b, its blocks O -/
def Dq (B : Nat) (w : World) (b : Nat) (O : Nat → Prop) (D : DM Nm) : Prop :=
  ∃ g nb ev T, (∀ k, O k ↔ g k ≠ none) ∧ Lies B w g b nb ev T D.L.length ∧ Good sumN T D ∧ Env B w ∧ ∀ x ∈ D.L, x.1.length ≤ 140737488351232
theorem dq_turn {B : Nat} {w w' : World} {b : Nat} {O : Nat → Prop} {D : DM Nm} (h : Dq B w b O D) (hk : ∀ k, k < B ∨ O k → w'.heap[k]? = w.heap[k]?) (hs : w.heap.size ≤ w'.heap.size) : Dq B w' b O D := by
  obtain ⟨g, nb, ev, T, hO, hL, hG, hE, hn⟩ := h
  exact ⟨g, nb, ev, T, hO, hL.turn (fun k e => hk k (.inr ((hO k).2 e))) hs, hG, hE.turn (fun k e => hk k (.inl e)) hs, hn⟩
theorem dq_base {B : Nat} {w : World} {b : Nat} {O : Nat → Prop} {D : DM Nm} (h : Dq B w b O D) : B ≤ w.heap.size := by
  obtain ⟨g, nb, ev, T, hO, hL, hG, hE, hn⟩ := h
  exact hE.size
theorem dq_lt {B : Nat} {w : World} {b : Nat} {O : Nat → Prop} {D : DM Nm} (h : Dq B w b O D) : ∀ k, O k → k < w.heap.size := by
  obtain ⟨g, nb, ev, T, hO, hL, hG, hE, hn⟩ := h
  exact fun k hk => (hL.lt k ((hO k).1 hk)).1
theorem dq_srt {B : Nat} {w : World} {b : Nat} {O : Nat → Prop} {D : DM Nm} (h : Dq B w b O D) : Srt D.L := by
  obtain ⟨g, nb, ev, T, hO, hL, hG, hE, hn⟩ := h
  exact hG.srt
theorem dq_nms {B : Nat} {w : World} {b : Nat} {O : Nat → Prop} {D : DM Nm} (h : Dq B w b O D) : ∀ x ∈ D.L, x.1.length ≤ 140737488351232 := by
  obtain ⟨g, nb, ev, T, hO, hL, hG, hE, hn⟩ := h
  exact hn
/-- behind a call -/
theorem Half.dq {B : Nat} {w w0 : World} {b : Nat} {g g0 : Tg} {nb : Nat} {ev : Value} {D : DM Nm} {T : TM Nm} (h : Half B w b g g0 w0 nb ev D T) (hn : ∀ x ∈ D.L, x.1.length ≤ 140737488351232) (O : Nat → Prop) (hO : ∀ k, O k ↔ g0 k ≠ none) : ∃ O', Dq B w b O' D ∧ Grew w0 O O' ∧ Keep (Off O) w0 w :=
  ⟨fun k => g k ≠ none, ⟨g, nb, ev, T, fun _ => Iff.rfl, h.lies, h.good, h.env, hn⟩, fun k hk => (h.turn.new k hk).imp (fun e => (hO k).2 e) id, h.turn.keep.mono (fun k hk => by
    cases e : g0 k with
    | none => rfl
    | some t => exact absurd ((hO k).2 (by rw [e]; simp)) hk)⟩
theorem dq_new {B : Nat} (hB0 : 0 < B) (w : World) (hV : Tab w) (hB : B ≤ w.heap.size) : Calls Tryd.prog 25 #[] w fun e w' => ∃ b, e = .returned (ptr b) ∧ Hid (∃ O, Dq B w' b O newD ∧ (∀ k, O k → w.heap.size ≤ k) ∧ Below w.heap.size w w') := by
  refine (new_any w).mono fun e w' ⟨he, hw⟩ => ⟨w.heap.size + 1, he, ?_⟩
  have hw : w' = _ := hw
  have hb : Below w.heap.size w w' := by
    rw [hw]
    exact (below_alloc w _).alloc (by simp) _
  have hE : Env B w' := (Env.mk hV hB0 hB).below hb hB
  refine ⟨fun k => newT w.heap.size k ≠ none, ⟨newT w.heap.size, w.heap.size, .slice none 0 0, ⟨List.replicate 4 [], [], 0⟩, fun _ => Iff.rfl, ?_, Good.new sumN, hE, fun x hx => by cases hx⟩, fun k hk => ?_, hb⟩
  · rw [hw]
    exact new_lies B w hB
  · have hk : newT w.heap.size k ≠ none := hk
    unfold newT at hk
    split at hk
    · omega
    · split at hk
      · omega
      · exact absurd rfl hk
theorem dq_put {B : Nat} (b : Nat) (O : Nat → Prop) (D : DM Nm) (n : Nm) (v : Nm) (w : World) (h : Dq B w b O D) (hS : Small 100000 D) (hn : n.length ≤ 140737488351232) :
    Calls Tryd.prog 26 #[ptr b, txt n, (txt v)] w fun e w' => e = .returned (.bool (hasL n D.L)) ∧ Hid (∃ O', Dq B w' b O' (putD D n v) ∧ Grew w O O' ∧ Keep (Off O) w w') := by
  obtain ⟨g, nb, ev, T, hO, hL, hG, hE, hnm⟩ := h
  refine (put_any ⟨hL, hG, hE, Turn.refl g w⟩ hS hnm n v hn).mono fun e w' ⟨he, hh⟩ => ⟨he, ?_⟩
  obtain ⟨g', nb', ev', T', hH⟩ := hh.out
  refine hH.dq (fun x hx => ?_) O hO
  rw [putD_L] at hx
  rcases (put1_mem n v D.L x).1 hx with rfl | ⟨hx, _⟩
  · exact hn
  · exact hnm x hx
theorem dq_get {B : Nat} (b : Nat) (O : Nat → Prop) (D : DM Nm) (n : Nm) (w : World) (h : Dq B w b O D) (hS : Small 100000 D) (hn : n.length ≤ 140737488351232) :
    Calls Tryd.prog 27 #[ptr b, txt n] w fun e w' => e = .returned (.tuple #[(txt ((getL n D.L).getD [])), .bool (getL n D.L).isSome]) ∧ Hid (Below w.heap.size w w') := by
  obtain ⟨g, nb, ev, T, hO, hL, hG, hE, hnm⟩ := h
  exact get_any hL hG hE hS n hn
theorem dq_len {B : Nat} (b : Nat) (O : Nat → Prop) (D : DM Nm) (w : World) (h : Dq B w b O D) :
    Calls Tryd.prog 29 #[ptr b] w fun e w' => e = .returned (.int .i64 D.L.length) ∧ Hid (Below w.heap.size w w') := by
  obtain ⟨g, nb, ev, T, hO, hL, hG, hE, hnm⟩ := h
  exact (len_any hL).mono fun e w' ⟨he, hw⟩ => ⟨he, by subst hw; exact Below.refl _ _⟩
theorem dq_names {B : Nat} (b : Nat) (O : Nat → Prop) (D : DM Nm) (w : World) (h : Dq B w b O D) (hS : Small 100000 D) :
    Calls Tryd.prog 28 #[ptr b] w fun e w' => ∃ q c, e = .returned (.slice q D.L.length c) ∧ Hid (Tl (fun k => w.heap.size ≤ k) w' (.slice q D.L.length c) (namesL D.L) ∧ Below w.heap.size w w') := by
  obtain ⟨g, nb, ev, T, hO, hL, hG, hE, hnm⟩ := h
  refine (names_run hL (Fit.of hG hS) hG.count.symm hS.len).mono fun e w' ⟨q, c, he, hh⟩ => ⟨some q, c, he, ?_⟩
  have hsr : srtR (upTo T 2) = namesL D.L := by
    refine srtR_eq ?_ ?_
    · have := hG.perm.map (·.1)
      unfold allT at this
      rw [List.map_append] at this
      exact this
    · exact List.pairwise_map.2 hG.srt
  have h1 := hh.out
  rw [hsr] at h1
  exact ⟨h1.1.tl (fun k hk => hk), h1.2⟩

end Go.Proofs.YtphegggekcjenaaDoor.DS
