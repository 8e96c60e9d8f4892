/- SlotP, SeSide. -/
import Derived.Lib.CutLaws
import Derived.Lib.SlBytesConst
import Derived.Deep.Draws
import Derived.Test.YtppgifaegnmciaaDoorM23
import Derived.Test.YtppgifaegnmciaaDoorM09
import Derived.Test.YtppgifaegnmciaaDoorM03
import Derived.Test.YtppgifaegnmciaaDoorM01
namespace Go.Proofs.YtppgifaegnmciaaDoor
open Go.RowKit
open Crc Slot

theorem Below.drewN {B : Nat} {a w : World} (h : Below B a w) (n : Nat) : Below B a (w.drewN n) := ⟨h.os, h.tape, h.output, h.size, h.block⟩
theorem cut_lib (c : UInt8) : ∀ l : List UInt8, Lib.cut l [c] = cut c l := fun l => by
  have key : ∀ l : List UInt8, (c ∉ l → Lib.index l [c] = -1) ∧ (∀ p r, l = p ++ c :: r → c ∉ p → Lib.index l [c] = p.length) := by
    intro l
    induction l with
    | nil => exact ⟨fun _ => rfl, fun p r h _ => by simp at h⟩
    | cons b l ih =>
      constructor
      · intro h
        have hb : ¬ c = b := fun e => h (by simp [e])
        have := ih.1 (fun m => h (List.mem_cons_of_mem _ m))
        simp [Lib.index, List.isPrefixOf, hb, this]
      · intro p r h hp
        cases p with
        | nil =>
          simp at h
          simp [Lib.index, List.isPrefixOf, h.1]
        | cons x p =>
          simp at h
          obtain ⟨rfl, h2⟩ := h
          have hb : ¬ c = b := fun e => hp (by simp [e])
          have := ih.2 p r h2 (fun m => hp (List.mem_cons_of_mem _ m))
          have ne : ¬ ((p.length : Int) = -1) := by omega
          simp [Lib.index, List.isPrefixOf, hb, this, ne]
  rcases cut_cases c l with ⟨p, r, rfl, h⟩ | h
  · rw [cut_hit h]
    unfold Lib.cut
    rw [(key _).2 p r rfl h, if_pos (by omega)]
    simp
  · rw [cut_miss h]
    unfold Lib.cut
    rw [(key _).1 h, if_neg (by omega)]

theorem index_one (l : List UInt8) (c : UInt8) : Lib.indexByte l c = Lib.index l [c] := (Lib.index_one l c).symm
set_option maxHeartbeats 1000000 in
theorem cut_inner (l : List UInt8) (c : UInt8) (w : World) (hl : l.length ≤ 9223372036854775807) :
    Calls Tryd.prog 75 #[.string ⟨l.toArray⟩, .string ⟨#[c]⟩] w fun e w' => e = .returned (.tuple #[.string ⟨(cut c l).1.toArray⟩, .string ⟨(cut c l).2.1.toArray⟩, .bool (cut c l).2.2]) ∧ ∃ n, w' = w.drewN n := by
  have HI := hid (Tryd.stringslite_Index_one ⟨l.toArray⟩ c)
  rw [← cut_lib c l]
  rcases Lib.indexB_cases ⟨l.toArray⟩ ⟨#[c]⟩ with hix | ⟨i, hix, hroom⟩
  · obtain ⟨e1, e2, e3⟩ := Lib.cutB_miss ⟨l.toArray⟩ ⟨#[c]⟩ hix
    simp only at e1 e2 e3
    rw [e1, e2, e3]
    have HX : Hid (Lib.indexByte l c = -1) := (index_one l c).trans hix
    clear hix
    go_enter Tryd.func75, Tryd.ntmps75
    go_wp2_with (go_at_call 84; refine (HI.out _).mono ?_; rintro e w' ⟨rfl, rfl⟩; rw [HX.out])
    go_ret3
    exact ⟨rfl, 0, rfl⟩
  · obtain ⟨e1, e2, e3⟩ := Lib.cutB_hit ⟨l.toArray⟩ ⟨#[c]⟩ i hix
    simp only at e1 e2 e3
    rw [e1, e2, e3]
    have HX : Hid (Lib.indexByte l c = i) := (index_one l c).trans hix
    have c0 : i < l.length := by have := hroom; simp [ByteArray.size] at this; omega
    clear hix hroom
    go_enter Tryd.func75, Tryd.ntmps75
    go_wp2_with (go_at_call 84; refine (HI.out _).mono ?_; rintro e w' ⟨rfl, rfl⟩; rw [HX.out])
    go_quiet ((fail))
    go_wp2
    go_ret3
    exact ⟨rfl, _, rfl⟩
/-- strings.Cut, of one byte -/
theorem cut_any (l : List UInt8) (c : UInt8) (w : World) (hl : l.length ≤ 9223372036854775807) :
    Calls Tryd.prog 59 #[.string ⟨l.toArray⟩, .string ⟨#[c]⟩] w fun e w' => e = .returned (.tuple #[.string ⟨(cut c l).1.toArray⟩, .string ⟨(cut c l).2.1.toArray⟩, .bool (cut c l).2.2]) ∧ ∃ n, w' = w.drewN n := by
  go_enter Tryd.func59, Tryd.ntmps59
  go_wp2_with (go_at_call 75; refine (cut_inner _ _ _ hl).mono ?_; rintro e w' ⟨rfl, n, rfl⟩)
  go_ret3
  exact ⟨rfl, n, rfl⟩
theorem tag_eq (key : List UInt8) : tag key = if (cut 123 key).2.2 = false then key
  else if (cut 125 (cut 123 key).2.1).2.2 = false ∨ (cut 125 (cut 123 key).2.1).1 = [] then key
  else (cut 125 (cut 123 key).2.1).1 := rfl
theorem cut_short (c : UInt8) (l : List UInt8) : (cut c l).1.length ≤ l.length ∧ (cut c l).2.1.length ≤ l.length := by
  rcases cut_cases c l with ⟨p, r, rfl, h⟩ | h
  · rw [cut_hit h]; simp; omega
  · rw [cut_miss h]; simp

set_option maxHeartbeats 1000000 in
/-- Tag -/
theorem tag_any (l : List UInt8) (w : World) (hl : l.length ≤ 9223372036854775807) :
    Calls Tryd.prog 51 #[.string ⟨l.toArray⟩] w fun e w' => e = .returned (.string ⟨(tag l).toArray⟩) ∧ ∃ n, w' = w.drewN n := by
  have H1 := hid fun w => cut_any l 123 w hl
  have H2 := hid fun w => cut_any (cut 123 l).2.1 125 w (by have := (cut_short 123 l).2; omega)
  have HT := hid (tag_eq l)
  generalize hm : tag l = T at HT
  clear hl hm
  generalize cut 123 l = C at H1 H2 HT
  obtain ⟨a, b, m⟩ := C
  simp only at H1 H2 HT
  generalize cut 125 b = D at H2 HT
  obtain ⟨t, r, k⟩ := D
  simp only at H2 HT
  cases m
  · rw [if_pos rfl] at HT
    go_enter Tryd.func51, Tryd.ntmps51
    go_wp2_with (go_at_call 59; refine (H1.out _).mono ?_; rintro e w' ⟨rfl, n1, rfl⟩)
    go_ret
    exact ⟨ret_str HT.out.symm, _, rfl⟩
  · rw [if_neg (by decide)] at HT
    cases k
    · rw [if_pos (.inl rfl)] at HT
      go_enter Tryd.func51, Tryd.ntmps51
      go_wp2_with fail
      refine (H1.out _).mono ?_; rintro e w' ⟨rfl, n1, rfl⟩
      go_wp2_with fail
      refine (H2.out _).mono ?_; rintro e w' ⟨rfl, n2, rfl⟩
      go_wp2
      go_ret
      exact ⟨ret_str HT.out.symm, _, rfl⟩
    · cases t with
      | nil =>
        rw [if_pos (.inr rfl)] at HT
        go_enter Tryd.func51, Tryd.ntmps51
        go_wp2_with fail
        refine (H1.out _).mono ?_; rintro e w' ⟨rfl, n1, rfl⟩
        go_wp2_with fail
        refine (H2.out _).mono ?_; rintro e w' ⟨rfl, n2, rfl⟩
        go_wp2
        go_ret
        exact ⟨ret_str HT.out.symm, _, rfl⟩
      | cons x t =>
        rw [if_neg (by simp)] at HT
        have hx : (x :: t).isEmpty = false := rfl
        generalize x :: t = t at H2 HT hx
        go_enter Tryd.func51, Tryd.ntmps51
        go_wp2_with fail
        refine (H1.out _).mono ?_; rintro e w' ⟨rfl, n1, rfl⟩
        go_wp2_with fail
        refine (H2.out _).mono ?_; rintro e w' ⟨rfl, n2, rfl⟩
        go_wp2
        go_ret
        exact ⟨ret_str HT.out.symm, _, rfl⟩

set_option maxHeartbeats 1000000 in
/-- Of -/
theorem of_any (l : List UInt8) (w : World) (ht : Tab w) (hr : 0 < w.heap.size) (hl : l.length ≤ 9223372036854775807) :
    Calls Tryd.prog 37 #[.string ⟨l.toArray⟩] w fun e w' => e = .returned (.int .i64 (slotOf l : Int)) ∧ Hid (Below w.heap.size w w') := by
  have kc := fun (w : World) (s : ByteArray) => Lib.run_convert_string_bytes (P := Tryd.prog) w 9 28 5 s Tryd.underlying9 Tryd.underlying28 Tryd.underlying5
  have HG := hid fun w => tag_any l w hl
  have HS : Hid (∀ n c, Calls Tryd.prog 50 #[.slice (some ⟨w.heap.size, 0, none⟩) (tag l).length c] (Lib.bytesWorld (w.drewN n) 5 ⟨(tag l).toArray⟩) fun e w' => e = .returned (.int .u16 ((Crc.more 0#16 ((tag l).map UInt8.toBitVec)).toNat : Int)) ∧ w' = Lib.bytesWorld (w.drewN n) 5 ⟨(tag l).toArray⟩) :=
    fun n c => Dc.sum_of (tag l) c (w.drewN n) ht hr (by have := tag_length l; omega)
  have HB : Hid (∀ n s, Below w.heap.size w (Lib.bytesWorld (w.drewN n) 5 s)) := fun n s => (Below.drewN (Below.refl _ w) n).trans (Dc.bytesWorld_below (w.drewN n) _ s)
  have hd : Hid (slotOf l = (Crc.more 0#16 ((tag l).map UInt8.toBitVec)).toNat % 16384) := rfl
  have hx := (Crc.more 0#16 ((tag l).map UInt8.toBitVec)).isLt
  generalize tag l = T at HG HS hd hx
  generalize (Crc.more 0#16 (T.map UInt8.toBitVec)).toNat = x at HS hd hx
  clear ht hr hl
  go_enter Tryd.func37, Tryd.ntmps37
  go_wp2_with fail
  refine (HG.out _).mono ?_; rintro e w' ⟨rfl, n, rfl⟩
  go_wp2_with fail
  refine (HS.out n _).mono ?_; rintro e w' ⟨rfl, rfl⟩
  go_wp2
  go_ret
  exact ⟨ret_int (by rw [hd.out]; simp), HB.out _ _⟩

end Go.Proofs.YtppgifaegnmciaaDoor

namespace Go.Proofs.YtppgifaegnmciaaDoor

/-- a text that is told, and which of both have it -/
abbrev Told := Nm × Bool × Bool
/-- what is told (n: room) -/
def side : Nat → List Nm → List Nm → List Told
  | 0, _, _ => []
  | _ + 1, [], [] => []
  | n + 1, x :: a, [] => (x, true, false) :: side n a []
  | n + 1, [], y :: b => (y, false, true) :: side n [] b
  | n + 1, x :: a, y :: b => if x < y then (x, true, false) :: side n a (y :: b) else if y < x then (y, false, true) :: side n (x :: a) b else (y, true, true) :: side n a b
structure Spec (a b : List Nm) (R : List Told) : Prop where
  told : ∀ t ∈ R, (t.1 ∈ a ∨ t.1 ∈ b) ∧ t.2.1 = decide (t.1 ∈ a) ∧ t.2.2 = decide (t.1 ∈ b)
  all : ∀ s, s ∈ a ∨ s ∈ b → s ∈ R.map (·.1)
  ris : Ris (R.map (·.1))
theorem Spec.cons {a b a' b' : List Nm} {s : Nm} {X Y : Bool} {R : List Told} (S : Spec a' b' R) (hX : a = if X = true then s :: a' else a') (hY : b = if Y = true then s :: b' else b') (hXY : X = true ∨ Y = true)
    (h1 : ∀ z ∈ a', s < z) (h2 : ∀ z ∈ b', s < z) : Spec a b ((s, X, Y) :: R) := by
  have n1 : s ∉ a' := fun h => nm_lt_irrefl s (h1 s h)
  have n2 : s ∉ b' := fun h => nm_lt_irrefl s (h2 s h)
  have ma : ∀ z, z ∈ a ↔ (X = true ∧ z = s) ∨ z ∈ a' := fun z => by rw [hX]; cases X <;> simp
  have mb : ∀ z, z ∈ b ↔ (Y = true ∧ z = s) ∨ z ∈ b' := fun z => by rw [hY]; cases Y <;> simp
  have up : ∀ t ∈ R, s < t.1 := fun t ht => by
    rcases (S.told t ht).1 with h | h
    · exact h1 _ h
    · exact h2 _ h
  refine ⟨fun t ht => ?_, fun z hz => ?_, ?_⟩
  · rcases List.mem_cons.1 ht with rfl | ht
    · refine ⟨?_, ?_, ?_⟩
      · rcases hXY with h | h
        · exact .inl ((ma s).2 (.inl ⟨h, rfl⟩))
        · exact .inr ((mb s).2 (.inl ⟨h, rfl⟩))
      · show X = decide (s ∈ a)
        cases X with
        | true => exact (decide_eq_true ((ma s).2 (.inl ⟨rfl, rfl⟩))).symm
        | false => exact (decide_eq_false (fun h => by
            rcases (ma s).1 h with h | h
            · exact absurd h.1 (by decide)
            · exact n1 h)).symm
      · show Y = decide (s ∈ b)
        cases Y with
        | true => exact (decide_eq_true ((mb s).2 (.inl ⟨rfl, rfl⟩))).symm
        | false => exact (decide_eq_false (fun h => by
            rcases (mb s).1 h with h | h
            · exact absurd h.1 (by decide)
            · exact n2 h)).symm
    · obtain ⟨t1, t2, t3⟩ := S.told t ht
      have hne : t.1 ≠ s := fun e => nm_lt_irrefl s (by have := up t ht; rwa [e] at this)
      refine ⟨?_, ?_, ?_⟩
      · rcases t1 with h | h
        · exact .inl ((ma _).2 (.inr h))
        · exact .inr ((mb _).2 (.inr h))
      · rw [t2, decide_eq_decide, ma]
        exact ⟨fun h => .inr h, fun h => h.elim (fun h => absurd h.2 hne) id⟩
      · rw [t3, decide_eq_decide, mb]
        exact ⟨fun h => .inr h, fun h => h.elim (fun h => absurd h.2 hne) id⟩
  · rw [List.map_cons, List.mem_cons]
    have : z = s ∨ z ∈ a' ∨ z ∈ b' := by
      rcases hz with h | h
      · rcases (ma z).1 h with h | h
        · exact .inl h.2
        · exact .inr (.inl h)
      · rcases (mb z).1 h with h | h
        · exact .inl h.2
        · exact .inr (.inr h)
    rcases this with h | h
    · exact .inl h
    · exact .inr (S.all z h)
  · rw [List.map_cons]
    refine List.pairwise_cons.2 ⟨fun z hz => ?_, S.ris⟩
    obtain ⟨t, ht, rfl⟩ := List.mem_map.1 hz
    exact up t ht
theorem above {x y : Nm} {b : List Nm} (h : x < y) (hb : ∀ z ∈ b, y < z) : ∀ z ∈ y :: b, x < z := fun z hz => by
  rcases List.mem_cons.1 hz with rfl | hz
  · exact h
  · exact nm_lt_trans h (hb z hz)
theorem side_spec : ∀ (n : Nat) (a b : List Nm), a.length + b.length ≤ n → Ris a → Ris b → Spec a b (side n a b)
  | 0, [], [], _, _, _ => ⟨fun t ht => by simp [side] at ht, fun s hs => by simp at hs, Ris.nil⟩
  | 0, x :: a, _, h, _, _ => by simp at h
  | 0, [], y :: b, h, _, _ => by simp at h
  | n + 1, [], [], _, _, _ => ⟨fun t ht => by simp [side] at ht, fun s hs => by simp at hs, Ris.nil⟩
  | n + 1, x :: a, [], h, ha, hb => by
    obtain ⟨a1, a2⟩ := List.pairwise_cons.1 ha
    exact (side_spec n a [] (by simp at h ⊢; omega) a2 hb).cons (by simp) (by simp) (.inl rfl) a1 (fun z hz => by simp at hz)
  | n + 1, [], y :: b, h, ha, hb => by
    obtain ⟨b1, b2⟩ := List.pairwise_cons.1 hb
    exact (side_spec n [] b (by simp at h ⊢; omega) ha b2).cons (by simp) (by simp) (.inr rfl) (fun z hz => by simp at hz) b1
  | n + 1, x :: a, y :: b, h, ha, hb => by
    obtain ⟨a1, a2⟩ := List.pairwise_cons.1 ha
    obtain ⟨b1, b2⟩ := List.pairwise_cons.1 hb
    rw [side]
    by_cases h1 : x < y
    · rw [if_pos h1]
      exact (side_spec n a (y :: b) (by simp at h ⊢; omega) a2 hb).cons (by simp) (by simp) (.inl rfl) a1 (above h1 b1)
    · rw [if_neg h1]
      by_cases h2 : y < x
      · rw [if_pos h2]
        exact (side_spec n (x :: a) b (by simp at h ⊢; omega) ha b2).cons (by simp) (by simp) (.inr rfl) (above h2 a1) b1
      · rw [if_neg h2]
        obtain rfl : x = y := by
          rcases nm_lt_or x y with g | g | g
          · exact absurd g h1
          · exact g
          · exact absurd g h2
        exact (side_spec n a b (by simp at h ⊢; omega) a2 b2).cons (by simp) (by simp) (.inl rfl) a1 b1
theorem side_len : ∀ (n : Nat) (a b : List Nm), (side n a b).length ≤ n
  | 0, _, _ => by simp [side]
  | n + 1, [], [] => by simp [side]
  | n + 1, x :: a, [] => by simpa [side] using side_len n a []
  | n + 1, [], y :: b => by simpa [side] using side_len n [] b
  | n + 1, x :: a, y :: b => by
    have h1 := side_len n a (y :: b)
    have h2 := side_len n (x :: a) b
    have h3 := side_len n a b
    rw [side]
    split
    · simp; omega
    · split
      · simp; omega
      · simp; omega
/-- those that are wanted -/
def pickd (f : Bool → Bool → Bool) (T : List Told) : List Nm := (T.filter (fun t => f t.2.1 t.2.2)).map (·.1)
theorem pickd_nil (f : Bool → Bool → Bool) : pickd f [] = [] := rfl
theorem pickd_yes {f : Bool → Bool → Bool} {T : List Told} {s : Nm} {X Y : Bool} (h : f X Y = true) : pickd f (T ++ [(s, X, Y)]) = pickd f T ++ [s] := by simp [pickd, h]
theorem pickd_no {f : Bool → Bool → Bool} {T : List Told} {s : Nm} {X Y : Bool} (h : f X Y = false) : pickd f (T ++ [(s, X, Y)]) = pickd f T := by simp [pickd, h]
theorem pickd_len (f : Bool → Bool → Bool) (T : List Told) : (pickd f T).length ≤ T.length := by
  unfold pickd
  rw [List.length_map]
  exact List.length_filter_le _ _
theorem Spec.mem {a b : List Nm} {R : List Told} (S : Spec a b R) (f : Bool → Bool → Bool) (s : Nm) : s ∈ pickd f R ↔ (s ∈ a ∨ s ∈ b) ∧ f (decide (s ∈ a)) (decide (s ∈ b)) = true := by
  unfold pickd
  rw [List.mem_map]
  constructor
  · rintro ⟨t, ht, rfl⟩
    obtain ⟨h1, h2⟩ := List.mem_filter.1 ht
    obtain ⟨t1, t2, t3⟩ := S.told t h1
    refine ⟨t1, ?_⟩
    rw [← t2, ← t3]
    exact h2
  · rintro ⟨h1, h2⟩
    obtain ⟨t, ht, e⟩ := List.mem_map.1 (S.all s h1)
    obtain ⟨t1, t2, t3⟩ := S.told t ht
    refine ⟨t, List.mem_filter.2 ⟨ht, ?_⟩, e⟩
    show f t.2.1 t.2.2 = true
    rw [t2, t3]
    have e' : t.1 = s := e
    rw [e']
    exact h2
theorem Spec.pick {a b : List Nm} {R : List Told} (S : Spec a b R) (f : Bool → Bool → Bool) : Ris (pickd f R) := S.ris.sublist (List.filter_sublist.map _)
theorem Spec.union {a b : List Nm} {R : List Told} (S : Spec a b R) (ha : Ris a) : pickd (fun x y => x || y) R = insAll a b := (S.pick _).ext (Ris.insAll b ha) fun s => by
  rw [S.mem, mem_insAll]; simp
theorem Spec.meet {a b : List Nm} {R : List Told} (S : Spec a b R) (ha : Ris a) : pickd (fun x y => x && y) R = meet a b := (S.pick _).ext (ha.meet b) fun s => by
  rw [S.mem, mem_meet]; simp
  exact fun h _ => .inl h
theorem Spec.less {a b : List Nm} {R : List Told} (S : Spec a b R) (ha : Ris a) : pickd (fun x y => x && !y) R = less a b := (S.pick _).ext (ha.less b) fun s => by
  rw [S.mem, mem_less]; simp
  exact fun h _ => .inl h
/-- all of one are in the other one -/
def inAll (T : List Told) : Bool := T.all (fun t => !(t.2.1 && !t.2.2))
theorem inAll_snoc (T : List Told) (s : Nm) (X Y : Bool) : inAll (T ++ [(s, X, Y)]) = (inAll T && !(X && !Y)) := by simp [inAll]
theorem Spec.inside {a b : List Nm} {R : List Told} (S : Spec a b R) : inAll R = true ↔ ∀ x ∈ a, x ∈ b := by
  unfold inAll
  rw [List.all_eq_true]
  constructor
  · intro h x hx
    obtain ⟨t, ht, e⟩ := List.mem_map.1 (S.all x (.inl hx))
    have e' : t.1 = x := e
    obtain ⟨_, t2, t3⟩ := S.told t ht
    have := h t ht
    rw [t2, t3, e'] at this
    simpa [hx] using this
  · intro h t ht
    obtain ⟨_, t2, t3⟩ := S.told t ht
    rw [t2, t3]
    by_cases k : t.1 ∈ a
    · simp [k, h _ k]
    · simp [k]
theorem union_one (l : List Nm) (s : Nm) : insAll l [s] = ins s l := rfl
theorem less_one (l : List Nm) (s : Nm) : less l [s] = del s l := by simp [less, del]

end Go.Proofs.YtppgifaegnmciaaDoor
