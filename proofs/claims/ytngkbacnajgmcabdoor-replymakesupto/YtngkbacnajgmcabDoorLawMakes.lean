/- The walk of the law ReplyMakes. -/
import Derived.Test.YtngkbacnajgmcabDoorAlive
import Derived.Test.YtngkbacnajgmcabDoorRefList
import Derived.Test.YtngkbacnajgmcabDoorYes
namespace Go.Proofs.YtngkbacnajgmcabDoor
open Go.RowKit

theorem sum_len : ∀ {l : List (List UInt8)} {b : Nat}, (l.map (·.length + 1)).sum ≤ b → l.length ≤ b ∧ ∀ t ∈ l, t.length ≤ b
  | [], _, _ => ⟨Nat.zero_le _, fun t h => by cases h⟩
  | x :: l, b, h => by
    rw [List.map_cons, List.sum_cons] at h
    obtain ⟨h1, h2⟩ := sum_len (l := l) (b := b - (x.length + 1)) (by omega)
    refine ⟨by simp; omega, fun t ht => ?_⟩
    rcases List.mem_cons.1 ht with rfl | ht
    · omega
    · have := h2 t ht; omega
set_option maxHeartbeats 4000000 in
set_option maxRecDepth 100000 in
theorem replyMakes_walk (s : List UInt8) (n : Int) (a : Option Addr) (l : List (List UInt8)) (cap : Nat) (w : World) (hE : Env w) (hs : s.length ≤ 1048576) (hn0 : -9223372036854775808 ≤ n) (hn1 : n ≤ 9223372036854775807) (hA : Strs w a l) (hu : (l.map (·.length + 1)).sum ≤ 1048576) :
    Calls Tryd.prog 3 #[.string ⟨s.toArray⟩, .int .i64 n, .slice a l.length cap] w fun e w' => e = .returned (.bool true) ∧ Below w.heap.size w w' := by
  obtain ⟨hl1, hl2⟩ := sum_len hu
  have HAl := hid (alive_any w hE)
  have HLi := hid fun (W : World) (hb : Below w.heap.size w W) => list_any a l cap W (hA.below hb (Nat.le_refl _)) (by omega) (fun t ht => by have := hl2 t ht; omega)
  have HRLi := hid fun (W : World) (hb : Below w.heap.size w W) => rlist_any a l cap W (hA.below hb (Nat.le_refl _)) (by omega) (fun t ht => by have := hl2 t ht; omega)
  have T1 := hid fun (W : World) => text_any s W
  have T2 := hid fun (W : World) => rtext_any s W
  have T3 := hid fun (W : World) => number_any n W
  have T4 := hid fun (W : World) => wrong_any s W
  have f4 : ∀ W : World, Rp All W 1 (.agg #[.int .i64 4, .int .i64 0, .string ⟨s.toArray⟩, .slice none 0 0]) (.mk 4 0 s []) := fun W => flat_rp (by decide) (by decide) (by decide) (by decide) (by omega)
  have f3 : ∀ W : World, Rp All W 1 (.agg #[.int .i64 3, .int .i64 n, .string ⟨#[]⟩, .slice none 0 0]) (.mk 3 n [] []) := fun W => flat_rp (t := []) (by decide) (by decide) hn0 hn1 (by simp)
  have f2 : ∀ W : World, Rp All W 1 (.agg #[.int .i64 2, .int .i64 0, .string ⟨s.toArray⟩, .slice none 0 0]) (.mk 2 0 s []) := fun W => flat_rp (by decide) (by decide) (by decide) (by decide) (by omega)
  have S4 := hid fun (W : World) => rsame_yes (f4 W) (f4 W)
  have S3 := hid fun (W : World) => rsame_yes (f3 W) (f3 W)
  have S2 := hid fun (W : World) => rsame_yes (f2 W) (f2 W)
  clear hE hA hu hl1 hl2 f4 f3 f2 hs
  go_enter Tryd.func3, Tryd.ntmps3
  go_wp2_with fail
  refine HAl.out.mono ?_; rintro e w1 ⟨rfl, hb⟩
  have B1 := hid hb.out
  clear hb HAl
  go_wp2_with fail
  refine (T1.out _).mono ?_; rintro e w2 ⟨rfl, hb⟩
  have B2 := hid (B1.out.trans (hb.mono B1.out.size))
  clear hb B1
  go_wp2_with fail
  refine (T2.out _).mono ?_; rintro e w3 ⟨rfl, hb⟩
  have B3 := hid (B2.out.trans (hb.mono B2.out.size))
  clear hb B2
  go_wp2_with fail
  refine (S4.out _).mono ?_; rintro e w4 ⟨rfl, hb⟩
  have B4 := hid (B3.out.trans (hb.mono B3.out.size))
  clear hb B3
  go_wp2_with fail
  refine (T3.out _).mono ?_; rintro e w5 ⟨rfl, hb⟩
  have B5 := hid (B4.out.trans (hb.mono B4.out.size))
  clear hb B4
  go_wp2_with fail
  refine (S3.out _).mono ?_; rintro e w6 ⟨rfl, hb⟩
  have B6 := hid (B5.out.trans (hb.mono B5.out.size))
  clear hb B5
  go_wp2_with fail
  refine (T4.out _).mono ?_; rintro e w7 ⟨rfl, hb⟩
  have B7 := hid (B6.out.trans (hb.mono B6.out.size))
  clear hb B6
  go_wp2_with fail
  refine (S2.out _).mono ?_; rintro e w8 ⟨rfl, hb⟩
  have B8 := hid (B7.out.trans (hb.mono B7.out.size))
  clear hb B7
  go_wp2_with fail
  refine (HLi.out _ B8.out).mono ?_; rintro e w9 ⟨q9, c9, rfl, hh⟩
  have B9 := hid (B8.out.trans (hh.out.2.mono B8.out.size))
  have R9 := hid fun (W : World) (hb : Below w9.heap.size w9 W) => (hh.out.1.all (Nat.le_refl _)).below hb (Nat.le_refl _)
  clear hh B8 HLi
  go_wp2_with fail
  refine (HRLi.out _ B9.out).mono ?_; rintro e w10 ⟨q10, c10, rfl, hh⟩
  have B10 := hid (B9.out.trans (hh.out.2.mono B9.out.size))
  have S10 := hid (rsame_yes (R9.out _ hh.out.2) (hh.out.1.all (Nat.le_refl _)))
  clear hh B9 HRLi R9
  go_wp2_with fail
  refine S10.out.mono ?_; rintro e w11 ⟨rfl, hb⟩
  have B11 := hid (B10.out.trans (hb.mono B10.out.size))
  clear hb
  go_wp2_with fail
  go_ret
  exact ⟨rfl, B11.out⟩

end Go.Proofs.YtngkbacnajgmcabDoor
