/- The law's begun, with more calls than it takes; the law's alive. -/
import Derived.Test.YtphegggekcjenaaDoorBegun
namespace Go.Proofs.YtphegggekcjenaaDoor
open Go.RowKit

set_option maxHeartbeats 2000000 in
set_option maxRecDepth 100000 in
theorem begun_big {V : World → Prop} {B : Nat} {Dq : World → Nat → (Nat → Prop) → DM Int → Prop} (M : MethI V B Dq) (p : Option Addr) (n cp : Nat) (w : World) (hV : V w) (hB : B ≤ w.heap.size) (hn : 600 < n) (hm : n ≤ 9223372036854775807) :
    Calls Tryd.prog 9 #[.slice p n cp] w fun e w' => e = .returned (.tuple #[.pointer none, rdV (.slice none 0 0) 4 0, .bool true]) ∧ Hid (Below w.heap.size w w') := by
  have hz : (600 : Int) < (n : Int) := by omega
  have HN := hid (M.new (w.alloc (.cells #[.slice none 0 0, .int .i64 0, .int .i64 0] 26)) (M.envB hV hB hB (below_alloc w _)) (by simp; omega))
  have H0 := hid (heap_alloc_new w (.cells #[.slice none 0 0, .int .i64 0, .int .i64 0] 26))
  have HB0 := hid (below_alloc w (.cells #[.slice none 0 0, .int .i64 0, .int .i64 0] 26))
  have HZ0 : Hid ((w.alloc (.cells #[.slice none 0 0, .int .i64 0, .int .i64 0] 26)).heap.size = w.heap.size + 1) := by simp [Hid]
  clear M hV
  go_enter Tryd.func9, Tryd.ntmps9
  go_wp2_with fail
  refine HN.out.mono ?_; rintro e w1 ⟨b, rfl, hh⟩
  obtain ⟨O0, hO0⟩ := hh.out
  have H1 := hid hO0
  clear hh hO0
  go_wp2_with fail
  refine (rnew_any w1).mono ?_; rintro e w2 ⟨rfl, hb2⟩
  have hw12 := hb2.out.size
  have hw01 : w.heap.size + 1 ≤ w1.heap.size := by have := H1.out.2.2.size; have := HZ0.out; omega
  have HB3 := hid (hb2.out.trans ((below_alloc w2 (.cells #[.slice none 0 0, .int .i64 4, .int .i64 0] 26)).mono hw12))
  have H03 := hid ((HB3.out.block w.heap.size (by omega)).trans ((H1.out.2.2.block w.heap.size (by have := HZ0.out; omega)).trans H0.out))
  obtain ⟨⟨m0, m1, m2⟩, s0, s1, s2⟩ := rd_facts H03.out
  have HK3 := hid ((HB0.out.trans (H1.out.2.2.mono (by have := HZ0.out; omega))).trans (HB3.out.mono (by omega)))
  clear hb2
  go_wp2_with fail
  go_region
  all_goals go_wp2_with fail
  all_goals refine bodyPost_ret (v := .tuple #[.pointer none, rdV (.slice none 0 0) 4 0, .bool true]) ?_ rfl ?_
  · exact ret_beg rfl rfl rfl rfl (set3_same _ w.heap.size _ _ _ _ _ _ H03.out)
  · exact ⟨rfl, (((HK3.out.setCell (p := ⟨w.heap.size, 0, none⟩) (Nat.le_refl _) _).setCell (p := ⟨w.heap.size, 1, none⟩) (Nat.le_refl _) _).setCell (p := ⟨w.heap.size, 2, none⟩) (Nat.le_refl _) _).drew⟩
/-- five names -/
def five : List Nm := [[97], [98], [99], [100], [101]]
def alD : Nat → DM Int
  | 0 => newD
  | i + 1 => putD (alD i) (five.getD i []) i
theorem five_tl (w : World) : Tl (fun _ => True) (w.alloc (.cells #[txt [97], txt [98], txt [99], txt [100], txt [101]] 9)) (.slice (some ⟨w.heap.size, 0, none⟩) 5 5) five :=
  .inr ⟨w.heap.size, 0, 5, rfl, by simp [five], trivial, by simp, fun i hi => by
    rw [Nat.zero_add, cell_of_row _ _ _ _ _ _ (heap_alloc_new w _)]
    match i, hi with
    | 0, _ => rfl
    | 1, _ => rfl
    | 2, _ => rfl
    | 3, _ => rfl
    | 4, _ => rfl⟩
theorem al_small : ∀ i, Small i (alD i)
  | 0 => Small.new
  | i + 1 => (al_small i).put _ _
theorem al_end : (alD 5).rooms = 8 ∧ (alD 5).left = 4 ∧ (alD 5).L.length = 5 ∧ getL [101] (alD 5).L = some 4 := by decide

end Go.Proofs.YtphegggekcjenaaDoor
