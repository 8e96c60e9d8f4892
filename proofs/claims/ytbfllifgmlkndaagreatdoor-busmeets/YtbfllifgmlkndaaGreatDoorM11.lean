/- Read. -/
import Derived.Test.YtbfllifgmlkndaaGreatDoorM10
namespace Go.Proofs.YtbfllifgmlkndaaGreatDoor
open Go.RowKit
open Slot

theorem atoi_ok (l : List UInt8) (v : Int) (w : World) (hl : l.length ≤ 281474976710656) (h : Lib.atoiAll l = .ok v) :
    Calls Tryz.prog 111 #[.string ⟨l.toArray⟩] w fun e w' => e = .returned (.tuple #[.int .i64 v, .nilIface]) ∧ Below w.heap.size w w' := by
  refine (Tryz.strconv_Atoi_ok ⟨l.toArray⟩ (by simp [ByteArray.size]; omega) v h w).mono ?_
  rintro e w' ⟨rfl, rfl | ⟨t, rfl⟩⟩
  · exact ⟨rfl, Below.refl _ _⟩
  · exact ⟨rfl, bytesWorld_below _ _ _⟩
theorem atoi_bad (l : List UInt8) (w : World) (hE : Env w) (hl : l.length ≤ 281474976710656) (h : ∀ v, Lib.atoiAll l ≠ .ok v) :
    Calls Tryz.prog 111 #[.string ⟨l.toArray⟩] w fun e w' => (∃ (v : Int) (t : TypeId) (p : Value), e = .returned (.tuple #[.int .i64 v, .iface t p])) ∧ Below w.heap.size w w' := by
  cases hh : Lib.atoiAll l with
  | ok v => exact absurd hh (h v)
  | «syntax» =>
    obtain ⟨tp, p, hv⟩ := hE.syn
    refine (Tryz.strconv_Atoi_syntax_var ⟨l.toArray⟩ (by simp [ByteArray.size]; omega) hh tp p w hv).mono ?_
    rintro e w' ⟨N, rfl, _, _, hb⟩
    exact ⟨⟨_, _, _, rfl⟩, hb⟩
  | range =>
    obtain ⟨tp, p, hv⟩ := hE.ran
    refine (Tryz.strconv_Atoi_range_var ⟨l.toArray⟩ (by simp [ByteArray.size]; omega) hh tp p w hv).mono ?_
    rintro e w' ⟨N, rfl, _, _, hb⟩
    exact ⟨⟨_, _, _, rfl⟩, hb⟩
theorem grow_below (w : World) (k : Nat) (os : Array Obj) : Below w.heap.size w (Sort.grow (w.drewN k) os) :=
  ⟨rfl, rfl, rfl, by simp, fun i hi => Sort.heap_grow_old (w.drewN k) os hi⟩
theorem itoa_any (n : Int) (w : World) (hE : Env w) (h0 : -9223372036854775808 ≤ n) (h1 : n ≤ 9223372036854775807) :
    Calls Tryz.prog 113 #[.int .i64 n] w fun e w' => e = .returned (.string ⟨(Lib.itoa n).toArray⟩) ∧ Below w.heap.size w w' := by
  refine (Tryz.strconv_Itoa n h0 h1 w hE.pow).mono ?_
  rintro e w' ⟨rfl, k, os, rfl⟩
  exact ⟨rfl, grow_below w k os⟩

set_option maxHeartbeats 1000000 in
/-- readSlot -/
theorem readSlot_any (l : List UInt8) (w : World) (hE : Env w) (hl : l.length ≤ 281474976710656) :
    Calls Tryz.prog 104 #[.string ⟨l.toArray⟩] w fun e w' => (∃ v : Int, e = .returned (.tuple #[.int .i64 v, .bool (readNum l).isSome]) ∧ ∀ n, readNum l = some n → v = n) ∧ Below w.heap.size w w' := by
  by_cases hok : ∃ v, Lib.atoiAll l = .ok v
  · obtain ⟨v, hv⟩ := hok
    have HA := hid (atoi_ok l v w hl hv)
    by_cases hs : 0 ≤ v ∧ v < 16384
    · by_cases hi : Lib.itoa v = l
      · have hr : readNum l = some v.toNat := by unfold readNum; rw [hv]; simp only; rw [if_pos ⟨hs.1, hs.2, hi⟩]
        have HI := hid (isSlot_any v)
        rw [decide_eq_true hs] at HI
        rw [hr]
        go_enter Tryz.func104, Tryz.ntmps104
        go_wp2_with fail
        refine HA.out.mono ?_; rintro e w1 ⟨rfl, hb1⟩
        have HB1 := hid hb1
        have HT := hid (fun W h => itoa_any v W h (by omega) (by omega))
        have HE1 := hid (hE.below hb1 hE.room)
        clear hb1
        go_wp2_with fail
        refine (HI.out _).mono ?_; rintro e w' ⟨rfl, rfl⟩
        go_wp2_with fail
        refine (HT.out _ HE1.out).mono ?_; rintro e w2 ⟨rfl, hb2⟩
        have HB2 := hid hb2
        clear hb2
        go_wp2
        go_ret2
        exact ⟨⟨v, rfl, fun n hn => by injection hn with hn; omega⟩, HB1.out.trans (HB2.out.mono HB1.out.size)⟩
      · have hr : readNum l = none := by unfold readNum; rw [hv]; simp only; rw [if_neg (fun h => hi h.2.2)]
        have HI := hid (isSlot_any v)
        rw [decide_eq_true hs] at HI
        rw [hr]
        go_enter Tryz.func104, Tryz.ntmps104
        go_wp2_with fail
        refine HA.out.mono ?_; rintro e w1 ⟨rfl, hb1⟩
        have HB1 := hid hb1
        have HT := hid (fun W h => itoa_any v W h (by omega) (by omega))
        have HE1 := hid (hE.below hb1 hE.room)
        clear hb1
        go_wp2_with fail
        refine (HI.out _).mono ?_; rintro e w' ⟨rfl, rfl⟩
        go_wp2_with fail
        refine (HT.out _ HE1.out).mono ?_; rintro e w2 ⟨rfl, hb2⟩
        have HB2 := hid hb2
        clear hb2
        go_wp2
        go_ret2
        exact ⟨⟨v, by simp [hi], fun n hn => by cases hn⟩, HB1.out.trans (HB2.out.mono HB1.out.size)⟩
    · have hr : readNum l = none := by unfold readNum; rw [hv]; simp only; rw [if_neg (fun h => hs ⟨h.1, h.2.1⟩)]
      have HI := hid (isSlot_any v)
      rw [decide_eq_false hs] at HI
      rw [hr]
      clear hs
      go_enter Tryz.func104, Tryz.ntmps104
      go_wp2_with fail
      refine HA.out.mono ?_; rintro e w1 ⟨rfl, hb1⟩
      have HB1 := hid hb1
      clear hb1
      go_wp2_with fail
      refine (HI.out _).mono ?_; rintro e w' ⟨rfl, rfl⟩
      go_wp2
      go_ret2
      exact ⟨⟨v, rfl, fun n hn => by cases hn⟩, HB1.out⟩
  · have hr : readNum l = none := by
      unfold readNum
      cases h : Lib.atoiAll l with
      | ok v => exact absurd ⟨v, h⟩ hok
      | «syntax» => rfl
      | range => rfl
    have HA := hid (atoi_bad l w hE hl (fun v h => hok ⟨v, h⟩))
    rw [hr]
    clear hok hr
    go_enter Tryz.func104, Tryz.ntmps104
    go_wp2_with fail
    refine HA.out.mono ?_; rintro e w1 ⟨⟨v, t, p, rfl⟩, hb1⟩
    have HB1 := hid hb1
    clear hb1
    go_wp2
    go_ret2
    exact ⟨⟨v, rfl, fun n hn => by cases hn⟩, HB1.out⟩

end Go.Proofs.YtbfllifgmlkndaaGreatDoor
