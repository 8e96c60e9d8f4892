/- The law's alive. -/
import Derived.Test.YtpmpndfinghlkaaDoorRtDec
import Derived.Test.YtpmpndfinghlkaaDoorRtRead
import Derived.Test.YtpmpndfinghlkaaDoorRtText2
import Derived.Test.YtpmpndfinghlkaaDoorRtRd1
namespace Go.Proofs.YtpmpndfinghlkaaDoor
open Go.RowKit

theorem itoa_1 (n : Nat) (h : n < 10) : Lib.itoa (n : Int) = [UInt8.ofNat (48 + n)] := by rw [Lib.itoa_nonneg]; exact dec_small h
theorem numO_1 (n : Nat) (h : n < 10) (most : Int) (hm : (n : Int) ≤ most) (hm2 : most ≤ 9223372036854775807) : numO [UInt8.ofNat (48 + n)] most = some (n : Int) := by
  rw [← itoa_1 n h]; exact numO_itoa _ _ (by omega) hm hm2
theorem read_alive : readV [65, 83, 75, 32, 53, 32, 51, 32, 55] = some ⟨3, 5, 3, 7⟩ := by
  have hp : pcs [65, 83, 75, 32, 53, 32, 51, 32, 55] = [[65, 83, 75], [53], [51], [55]] := by decide
  rw [readV_4 (by decide) (by decide) (by decide) hp, if_pos (show ([65, 83, 75] : List UInt8) = wAsk from rfl)]
  exact ledV_yes (numO_1 5 (by decide) _ (by decide) (by decide)) (numO_1 3 (by decide) _ (by decide) (by decide)) (numO_1 7 (by decide) _ (by decide) (by decide))
theorem text_alive : textV ⟨2, 5, 2, 0⟩ = [77, 79, 86, 69, 68, 32, 53, 32, 50] := by
  have h5 := itoa_1 5 (by decide)
  have h2 := itoa_1 2 (by decide)
  show wMoved ++ 32 :: (Lib.itoa ((5 : Nat) : Int) ++ 32 :: Lib.itoa ((2 : Nat) : Int)) = _
  rw [h5, h2]
  decide
def caseA : CaseV := ⟨1, 2, -1, -1, 0, 0, [5], [], []⟩
theorem decide_alive : decideV caseA = ⟨2, 5, 2, 0⟩ := by rfl
theorem eq_dec_same (d : DecV) (w : World) : (Op.equalIn 10000 28 (.agg (decCells d)) (.agg (decCells d))).run Tryd.prog w = .ok true w := by
  obtain ⟨k, s, n, t⟩ := d
  unfold decCells
  go_simp
theorem wpList_load_want {P : Program} {ops : Array Oper} {rest : List Oper} {o : Oper} {a : Act} {w : World} {Q : Exit → Act → World → Prop} (hw : Region.wanted o (yielded ops a.tmps) = true) (ty : TypeId) (x : Operand) (ho : o.op = .load ty x)
    (g : Nat) (hx : a.eval x = .pointer (some ⟨g, 0, none⟩)) (t : TypeId) (cs : Array Value) (fr : Nat × Nat) (d : TypeDesc) (hg : w.heap[g]? = some (.cells cs t fr))
    (hu : P.underlying ty = some d) (hd : (match d with | .struct _ | .array _ _ => true | _ => false) = true) (hi : (P.info? ty).map (·.size) = some cs.size)
    (h : wpList P ops Q rest (a.put o.dst (.agg cs)) w) : wpList P ops Q (o :: rest) a w := by
  refine wpList_step fun K hK => ?_
  rw [if_pos hw]
  exact wp_load_row ty x ho g hx t cs fr d hg hu hd hi (hK _ _ h)
set_option maxHeartbeats 4000000 in
set_option maxRecDepth 100000 in
theorem alive_any (w : World) (hE : Env w) : Calls Tryd.prog 9 #[] w fun e w' => e = .returned (.bool true) ∧ Below w.heap.size w w' := by
  obtain ⟨w1, hw1⟩ : ∃ w1, w.alloc (.cells #[.int .i64 5] 3) = w1 := ⟨_, rfl⟩
  have hB1 : Below w.heap.size w w1 := by rw [← hw1]; exact below_alloc _ _
  have h5 : w1.heap[w.heap.size]? = some (.cells #[.int .i64 5] 3 (0, 0)) := by rw [← hw1]; exact heap_alloc_new _ _
  have HC : Hid (CaseR w1 caseA (some ⟨w.heap.size, 0, none⟩) none none) := ⟨fun _ => ⟨w.heap.size, 0, rfl, (Array.getElem?_eq_some_iff.1 h5).1, fun j hj => by
    obtain rfl : j = 0 := by simp [caseA] at hj; omega
    exact cell_of_row _ _ 0 _ _ _ h5⟩, fun h => absurd rfl h, fun h => absurd rfl h⟩
  have hD := decide_any caseA (some ⟨w.heap.size, 0, none⟩) 1 none 0 none 0 w1 HC.out (by decide) (by decide) (by decide) (by decide) (by decide)
  rw [decide_alive] at hD
  have HD : Hid (Calls Tryd.prog 10 #[.agg #[.int .i64 1, .int .i64 2, .int .i64 (-1), .int .i64 (-1), .int .i64 0, .int .i64 0, .slice (some ⟨w.heap.size, 0, none⟩) 1 1, .slice none 0 0, .slice none 0 0]] w1 (DecP ⟨2, 5, 2, 0⟩ w1)) := hD
  have HE := hid fun (W : World) (hb : Below w.heap.size w W) => hE.below hb hE.room
  have HR := hid fun (W : World) (h : Env W) => read_any [65, 83, 75, 32, 53, 32, 51, 32, 55] W h (by decide)
  have HT := hid fun (W : World) (h : Env W) => text_any ⟨2, 5, 2, 0⟩ W h ⟨show In64 2 from ⟨by decide, by decide⟩, show In64 5 from ⟨by decide, by decide⟩, show In64 2 from ⟨by decide, by decide⟩, show In64 0 from ⟨by decide, by decide⟩⟩
  rw [read_alive] at HR
  rw [text_alive] at HT
  have HB1 := hid hB1
  have HZ := hid fun (W : World) (o : Obj) => heap_alloc_new W o
  have hz := infoDec
  clear hD h5 hB1 hE
  go_enter Tryd.func9, Tryd.ntmps9
  go_wp2_with fail
  refine HD.out.mono ?_; rintro e w2 ⟨rfl, hb2⟩
  have HB2 := hid (HB1.out.trans (hb2.mono HB1.out.size))
  clear hb2 HD hw1 HB1
  obtain ⟨w3, hw3⟩ : ∃ w3, w2.alloc (.cells #[.int .i64 0, .int .i64 0, .int .i64 0, .int .i64 0] 28) = w3 := ⟨_, rfl⟩
  have hD3 : w3.heap[w2.heap.size]? = some (.cells #[.int .i64 0, .int .i64 0, .int .i64 0, .int .i64 0] 28 (0, 0)) := by rw [← hw3]; exact heap_alloc_new _ _
  have HD3 := hid hD3
  have HD4 : Hid ((w3.setRow w2.heap.size #[.int .i64 2, .int .i64 5, .int .i64 2, .int .i64 0]).heap[w2.heap.size]? = some (.cells #[.int .i64 2, .int .i64 5, .int .i64 2, .int .i64 0] 28 (0, 0))) := setRow_heap _ _ _ _ _ _ hD3
  have HB4 : Hid (Below w.heap.size w (w3.setRow w2.heap.size #[.int .i64 2, .int .i64 5, .int .i64 2, .int .i64 0])) := by
    rw [← hw3]; exact below_setRow (HB2.out.alloc HB2.out.size _) HB2.out.size _
  have HR4 := hid (HR.out _ (HE.out _ HB4.out))
  clear hD3 HR HB2
  rw [show decCells ⟨2, 5, 2, 0⟩ = #[.int .i64 2, .int .i64 5, .int .i64 2, .int .i64 0] from rfl]
  go_wp2_with (refine wpList_store_row rfl 28 _ _ rfl w2.heap.size #[.int .i64 2, .int .i64 5, .int .i64 2, .int .i64 0] rfl rfl 28 _ HD3.out (hz ⟨2, 5, 2, 0⟩) rfl (by simp [Value.oneCell']) ?_)
  refine HR4.out.mono ?_; rintro e w5 ⟨rfl, hb⟩
  have HD5 := hid ((hb.block _ (Array.getElem?_eq_some_iff.1 HD4.out).1).trans HD4.out)
  have HB5 := hid (HB4.out.trans (hb.mono HB4.out.size))
  clear hb HR4 HD4 HB4 HD3 hw3
  obtain ⟨w6, hw6⟩ : ∃ w6, w5.alloc (.cells #[.int .i64 0, .int .i64 0, .int .i64 0, .int .i64 0] 28) = w6 := ⟨_, rfl⟩
  have hD6 : w6.heap[w5.heap.size]? = some (.cells #[.int .i64 0, .int .i64 0, .int .i64 0, .int .i64 0] 28 (0, 0)) := by rw [← hw6]; exact heap_alloc_new _ _
  have HD6 := hid hD6
  have HE7 : Hid ((w6.setRow w5.heap.size #[.int .i64 3, .int .i64 5, .int .i64 3, .int .i64 7]).heap[w5.heap.size]? = some (.cells #[.int .i64 3, .int .i64 5, .int .i64 3, .int .i64 7] 28 (0, 0))) := setRow_heap _ _ _ _ _ _ hD6
  have HB7 : Hid (Below w.heap.size w (w6.setRow w5.heap.size #[.int .i64 3, .int .i64 5, .int .i64 3, .int .i64 7])) := by
    rw [← hw6]; exact below_setRow (HB5.out.alloc HB5.out.size _) HB5.out.size _
  have HD7 : Hid ((w6.setRow w5.heap.size #[.int .i64 3, .int .i64 5, .int .i64 3, .int .i64 7]).heap[w2.heap.size]? = some (.cells #[.int .i64 2, .int .i64 5, .int .i64 2, .int .i64 0] 28 (0, 0))) := by
    have hlt := (Array.getElem?_eq_some_iff.1 HD5.out).1
    rw [← hw6]
    exact (setRow_other _ _ _ _ (by omega)).trans ((heap_alloc_old _ _ hlt).trans HD5.out)
  clear hD6
  simp only [ledT]
  rw [show decCells ⟨3, 5, 3, 7⟩ = #[.int .i64 3, .int .i64 5, .int .i64 3, .int .i64 7] from rfl]
  have HT7 := hid (HT.out _ (HE.out _ HB7.out))
  go_upto_region 3 with (refine wpList_store_row rfl 28 _ _ rfl w5.heap.size #[.int .i64 3, .int .i64 5, .int .i64 3, .int .i64 7] rfl rfl 28 _ HD6.out (hz ⟨3, 5, 3, 7⟩) rfl (by simp [Value.oneCell']) ?_)
  clear HT HE HD6 hw6
  generalize _root_.Go.World.setRow w6 w5.heap.size #[.int .i64 3, .int .i64 5, .int .i64 3, .int .i64 7] = w7 at *
  go_wp2_with (first | (refine wpList_load_row rfl 28 _ rfl w2.heap.size rfl 28 _ (0, 0) _ HD7.out Tryd.underlying28 rfl (hz ⟨2, 5, 2, 0⟩) ?_) | (refine wpList_load_want rfl 28 _ rfl w2.heap.size rfl 28 _ (0, 0) _ HD7.out Tryd.underlying28 rfl (hz ⟨2, 5, 2, 0⟩) ?_))
  refine HT7.out.mono ?_; rintro e w8 ⟨rfl, hb⟩
  have HD8 := hid ((hb.block _ (Array.getElem?_eq_some_iff.1 HE7.out).1).trans HE7.out)
  have HB8 := hid (HB7.out.trans (hb.mono HB7.out.size))
  clear hb HT7
  go_wp2_with (refine wpList_load_want rfl 28 _ rfl w5.heap.size rfl 28 _ (0, 0) _ HD8.out Tryd.underlying28 rfl (hz ⟨3, 5, 3, 7⟩) ?_)
  go_ret
  exact ⟨rfl, HB8.out⟩

end Go.Proofs.YtpmpndfinghlkaaDoor
