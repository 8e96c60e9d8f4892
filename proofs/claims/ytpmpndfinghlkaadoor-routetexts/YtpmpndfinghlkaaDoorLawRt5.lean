/- The law RouteTexts: how any decision is told, and that those that lead on are read again. -/
import Derived.Test.YtpmpndfinghlkaaDoorLawRt4
namespace Go.Proofs.YtpmpndfinghlkaaDoor
open Go.RowKit

theorem textV_len (d : DecV) (hd : DecIn d) : (textV d).length ≤ 1000 := by
  have h1 := itoa_len d.slot hd.slot.1 hd.slot.2
  have h2 := itoa_len d.node hd.node.1 hd.node.2
  have h3 := itoa_len d.token hd.token.1 hd.token.2
  unfold textV
  by_cases k2 : d.kind = 2
  · rw [if_pos k2]; simp [wMoved]; omega
  rw [if_neg k2]
  by_cases k3 : d.kind = 3
  · rw [if_pos k3]; simp [wAsk]; omega
  rw [if_neg k3]
  by_cases k4 : d.kind = 4
  · rw [if_pos k4]; decide
  rw [if_neg k4]
  by_cases k5 : d.kind = 5
  · rw [if_pos k5]; decide
  rw [if_neg k5]
  by_cases k6 : d.kind = 6
  · rw [if_pos k6]; decide
  rw [if_neg k6]; decide
/-- a decision in a box, and two of the call's own -/
structure Thr (w W : World) (X : Array Value) (b : Nat) (C : Array Value) (z : Nat) (D : Array Value) : Prop where
  box : W.heap[w.heap.size]? = some (.cells X 28 (0, 0))
  one : W.heap[b]? = some (.cells C 28 (0, 0))
  two : W.heap[z]? = some (.cells D 28 (0, 0))
  bel : Below w.heap.size w W
theorem Thr.go {w W W' : World} {b z : Nat} {X C D : Array Value} (h : Thr w W X b C z D) (hb : Below W.heap.size W W') : Thr w W' X b C z D :=
  ⟨(hb.block _ (Array.getElem?_eq_some_iff.1 h.box).1).trans h.box, (hb.block _ (Array.getElem?_eq_some_iff.1 h.one).1).trans h.one, (hb.block _ (Array.getElem?_eq_some_iff.1 h.two).1).trans h.two, h.bel.trans (hb.mono h.bel.size)⟩
set_option maxHeartbeats 4000000 in
set_option maxRecDepth 100000 in
theorem texts_any (d : DecV) (w : World) (hE : Env w) (hd : DecIn d) : Calls Tryd.prog 4 #[.agg (decCells d)] w fun e w' => e = .returned (.bool true) ∧ Below w.heap.size w w' := by
  obtain ⟨w1, hw1⟩ : ∃ w1, w.alloc (.cells (decCells d) 28) = w1 := ⟨_, rfl⟩
  have hB1 : Below w.heap.size w w1 := by rw [← hw1]; exact below_alloc _ _
  have HB1 := hid hB1
  have HX1 : Hid (w1.heap[w.heap.size]? = some (.cells (decCells d) 28 (0, 0))) := by unfold Hid; rw [← hw1]; exact heap_alloc_new _ _
  have hlen := textV_len d hd
  have HT := hid fun W h => text_any d W h hd
  have HU := hid fun W => rtext_any d W hd
  have HR := hid fun W h => read_led (textV d) W h (by omega)
  have HS := hid fun W => rread_led (textV d) W (by omega)
  have HE := hid fun (W : World) (hb : Below w.heap.size w W) => hE.below hb hE.room
  have heq := eq_led_same (readV (textV d))
  have hi := infoLed (readV (textV d))
  have hone := ledC_one (readV (textV d))
  have hsz : (#[.int .i64 0, .int .i64 0, .int .i64 0, .int .i64 0] : Array Value).size = (ledC (readV (textV d))).size := by rw [ledC_size]; rfl
  have hx := infoDec d
  generalize ledC (readV (textV d)) = C at *
  generalize ledB (readV (textV d)) = B at *
  generalize textV d = l at *
  generalize decCells d = X at *
  have HZz := hid hsz
  have hll : (l == l) = true := by simp
  have hBB : (B == B) = true := by simp
  clear hlen hsz hd hB1 hE
  go_enter Tryd.func4, Tryd.ntmps4
  go_upto_region 1 with fail
  clear hw1
  go_wp2_with (refine wpList_load_row rfl 28 _ rfl w.heap.size rfl 28 _ (0, 0) _ HX1.out Tryd.underlying28 rfl hx ?_)
  refine (HT.out w1 (HE.out _ HB1.out)).mono ?_; rintro e w2 ⟨rfl, hb⟩
  have HB2 := hid (HB1.out.trans (hb.mono HB1.out.size))
  have HX2 := hid ((hb.block _ (Array.getElem?_eq_some_iff.1 HX1.out).1).trans HX1.out)
  clear hb HB1 HX1 HT
  go_wp2_with fail
  refine (HR.out w2 (HE.out _ HB2.out)).mono ?_; rintro e w3 ⟨rfl, hb⟩
  obtain ⟨z1, z2, z3, z4⟩ := box_new C (HB2.out.trans (hb.mono HB2.out.size))
  have Z1 := hid z1
  have Z2 := hid z2
  have Z3 := hid z3
  have Z4 := hid (z4 _ _ ((hb.block _ (Array.getElem?_eq_some_iff.1 HX2.out).1).trans HX2.out))
  clear z1 z2 z3 z4 hb HB2 HX2 HR
  go_upto_region 3 with (refine wpList_store_row rfl 28 _ _ rfl w3.heap.size C rfl rfl 28 _ Z1.out hi HZz.out hone ?_)
  clear Z1
  generalize (w3.alloc (.cells #[.int .i64 0, .int .i64 0, .int .i64 0, .int .i64 0] 28)).setRow w3.heap.size C = w4 at *
  generalize w3.heap.size = b at *
  go_wp2_with (refine wpList_load_row rfl 28 _ rfl w.heap.size rfl 28 _ (0, 0) _ Z4.out Tryd.underlying28 rfl hx ?_)
  refine (HU.out w4).mono ?_; rintro e w5 ⟨rfl, hb⟩
  have HB5 := hid (Z3.out.trans (hb.mono Z3.out.size))
  have HX5 := hid ((hb.block _ (Array.getElem?_eq_some_iff.1 Z4.out).1).trans Z4.out)
  have HC5 := hid ((hb.block _ (Array.getElem?_eq_some_iff.1 Z2.out).1).trans Z2.out)
  clear hb Z2 Z3 Z4
  go_wp2_with fail
  refine (HS.out w5).mono ?_; rintro e w6 ⟨rfl, hb⟩
  obtain ⟨y1, y2, y3, y4⟩ := box_new C (HB5.out.trans (hb.mono HB5.out.size))
  have Y1 := hid y1
  have HQ : Hid (Thr w ((w6.alloc (.cells #[.int .i64 0, .int .i64 0, .int .i64 0, .int .i64 0] 28)).setRow w6.heap.size C) X b C w6.heap.size C) :=
    ⟨y4 _ _ ((hb.block _ (Array.getElem?_eq_some_iff.1 HX5.out).1).trans HX5.out), y4 _ _ ((hb.block _ (Array.getElem?_eq_some_iff.1 HC5.out).1).trans HC5.out), y2, y3⟩
  clear y1 y2 y3 y4 hb HS HX5 HC5 HB5
  go_upto_region 4 with (refine wpList_store_row rfl 28 _ _ rfl w6.heap.size C rfl rfl 28 _ Y1.out hi HZz.out hone ?_)
  clear Y1
  generalize (w6.alloc (.cells #[.int .i64 0, .int .i64 0, .int .i64 0, .int .i64 0] 28)).setRow w6.heap.size C = w7 at *
  generalize w6.heap.size = z at *
  have HA := hid (alive_any w7 (HE.out _ HQ.out.bel))
  go_wp2_with fail
  refine HA.out.mono ?_; rintro e w8 ⟨rfl, hb⟩
  have HQ8 := hid (HQ.out.go hb)
  clear hb HA HQ HE
  go_wp2_with (refine wpList_load_want rfl 28 _ rfl w.heap.size rfl 28 _ (0, 0) _ HQ8.out.box Tryd.underlying28 rfl hx ?_)
  refine (HU.out w8).mono ?_; rintro e w9 ⟨rfl, hb⟩
  have HQ9 := hid (HQ8.out.go hb)
  clear hb HU HQ8
  go_wp2_with (first | (refine wpList_load_want rfl 28 _ rfl b rfl 28 _ (0, 0) _ HQ9.out.one Tryd.underlying28 rfl hi ?_) | (refine wpList_load_want rfl 28 _ rfl z rfl 28 _ (0, 0) _ HQ9.out.two Tryd.underlying28 rfl hi ?_))
  go_ret
  exact ⟨rfl, HQ9.out.bel⟩

end Go.Proofs.YtpmpndfinghlkaaDoor
