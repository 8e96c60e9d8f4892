/- LawAll. -/
import Derived.Test.YtdicjnkbmlamgaaM34
import Derived.Test.YtdicjnkbmlamgaaM36
import Derived.Test.YtdicjnkbmlamgaaM37
namespace Go.Proofs.Ytdicjnkbmlamgaa
open Go.RowKit
open Slot

/-- a row of a document's view behind a call, put into a block of its own -/
theorem put_row {w w2 : World} {RC : Array Value} (h : Below w.heap.size w w2) (hs : RC.size = 3) : Below w.heap.size w ((w2.alloc (.cells #[.int .i64 0, .slice none 0 0, .int .u64 0] 31)).setRow w2.heap.size RC) ∧ ((w2.alloc (.cells #[.int .i64 0, .slice none 0 0, .int .u64 0] 31)).setRow w2.heap.size RC).heap[w2.heap.size]? = some (.cells RC 31 (0, 0)) ∧ (#[.int .i64 0, .slice none 0 0, .int .u64 0] : Array Value).size = RC.size ∧ (Try.prog.info? 31).map (·.size) = some RC.size ∧ Below w2.heap.size w2 ((w2.alloc (.cells #[.int .i64 0, .slice none 0 0, .int .u64 0] 31)).setRow w2.heap.size RC) :=
  ⟨below_setRow (h.alloc h.size _) h.size _, setRow_heap _ _ _ _ _ _ (heap_alloc_new w2 _), hs.symm, infoRV hs, below_setRow (below_alloc w2 _) (Nat.le_refl _) _⟩
set_option maxHeartbeats 4000000 in
set_option maxRecDepth 100000 in
theorem all_any (self : Int) (S : Nat → Bool) (e : Nat) (a : Option Addr) (L : List OpV) (n c : Nat) (w : World) (hn : L.length = n) (hL : OpR w a L) (hm : n ≤ 9223372036854775807) :
    Calls Try.prog 3 #[.agg (bgC self S e), .slice a n c] w fun e w' => e = .returned (.bool true) ∧ Below w.heap.size w w' := by
  have HW1 := hid (below_alloc w (.cells (bgC self S e) 26))
  have HB1 : Hid ((w.alloc (.cells (bgC self S e) 26)).heap[w.heap.size]? = some (.cells (bgC self S e) 26 (0, 0))) := bg_new w self S e
  have iB := infoBg self S e
  have HBe := hid (begun_any self e n c S a L _ hn (hL.below HW1.out (Nat.le_refl _)) hm)
  have HAl := hid (fun W => alive_any W)
  obtain ⟨BC, hBC⟩ : ∃ C, bgC self S e = C := ⟨_, rfl⟩
  rw [hBC] at HW1 HB1 HBe iB ⊢
  clear hBC hn hL hm
  go_enter Try.func3, Try.ntmps3
  go_upto_region 1 with fail
  generalize w.alloc (.cells BC 26) = w1 at *
  go_wp2_with (refine wpList_load_row rfl 26 _ rfl w.heap.size rfl 26 _ (0, 0) _ HB1.out Try.underlying26 rfl iB ?_)
  refine HBe.out.mono ?_; rintro r w2 ⟨x, RC, rfl, hs, ho, hb, hx⟩
  have HW2 := hid (HW1.out.trans (hb.mono HW1.out.size))
  obtain ⟨b3, h3, hz, iR, hb3⟩ := put_row HW2.out hs
  have HW3 := hid b3
  have HR3 := hid h3
  have HB3 := hid hb3
  have HX := hid hx
  have HO := hid ho
  have HZ := hid (heap_alloc_new w2 (.cells #[.int .i64 0, .slice none 0 0, .int .u64 0] 31))
  clear hb b3 h3 hb3 hx ho hs HBe HB1
  go_upto_region 2 with (refine wpList_store_row rfl 31 _ _ rfl w2.heap.size RC rfl rfl 31 _ HZ.out iR hz HO.out ?_)
  clear HZ
  generalize (w2.alloc (.cells #[.int .i64 0, .slice none 0 0, .int .u64 0] 31)).setRow w2.heap.size RC = w3 at *
  go_wp2_with fail
  refine (HAl.out _).mono ?_; rintro r w4 ⟨rfl, hb4⟩
  have HW4 := hid (HW3.out.trans (hb4.mono HW3.out.size))
  have HR4 := hid ((hb4.block _ (Array.getElem?_eq_some_iff.1 HR3.out).1).trans HR3.out)
  rcases HX.out with rfl | ⟨b, v, g, cap, rfl, hRC, hV, hN, hOk, -⟩
  · clear hb4
    go_wp2_with fail
    go_ret
    exact ⟨rfl, HW4.out⟩
  · have hV3 := hV.below HB3.out hV.lt
    have hN3 := hN.below HB3.out hN.lt
    have hSt := stands_any b g cap v w4 (hV3.below hb4 hV3.lt) (hN3.below hb4 hN3.lt) hOk.self
    rw [← hRC] at hSt
    have HSt := hid hSt
    clear hb4 hRC hV hN hOk hV3 hN3 hSt
    go_wp2_with (refine wpList_load_want rfl 31 _ rfl w2.heap.size rfl 31 _ (0, 0) _ HR4.out Try.underlying31 rfl iR ?_)
    refine HSt.out.mono ?_; rintro r w5 ⟨rfl, hb5⟩
    have HW5 := hid (HW4.out.trans (hb5.mono HW4.out.size))
    clear hb5
    go_wp2_with fail
    go_ret
    exact ⟨rfl, HW5.out⟩

end Go.Proofs.Ytdicjnkbmlamgaa
