/- The program's number: a number from 0 to most that is written so; led. -/
import Derived.Test.YtpmpndfinghlkaaDoorRtBase
import Derived.Test.YtpmpndfinghlkaaDoorRtPlain
import Derived.Test.YtpmpndfinghlkaaDoorRtRef
namespace Go.Proofs.YtpmpndfinghlkaaDoor
open Go.RowKit

/-- what number tells -/
def numT : Option Int → Value
  | some n => .tuple #[.int .i64 n, .bool true]
  | none => .tuple #[.int .i64 0, .bool false]
set_option maxHeartbeats 1000000 in
set_option maxRecDepth 100000 in
theorem number_any (l : List UInt8) (most : Int) (w : World) (hE : Env w) (hl : l.length ≤ 281474976710656) :
    Calls Tryd.prog 26 #[.string ⟨l.toArray⟩, .int .i64 most] w fun e w' => e = .returned (numT (numO l most)) ∧ Hid (Below w.heap.size w w') := by
  obtain ⟨V, hV⟩ : ∃ V, V = numT (numO l most) := ⟨_, rfl⟩
  rw [← hV]
  by_cases hok : ∃ v, Lib.atoiAll l = .ok v
  · obtain ⟨v, hv⟩ := hok
    have HA := hid (atoi_ok l v w hl hv)
    obtain ⟨hb0, hb1⟩ := Lib.atoiAll_bounds hv
    rw [numO_ok hv] at hV
    have HT := hid (fun W h => itoa_any v W h hb0 hb1)
    have HE := hid fun (W : World) (hb : Below w.heap.size w W) => hE.below hb hE.room
    clear hE hv
    by_cases hlo : v < 0
    · rw [if_neg (fun h => by omega)] at hV
      have HV := hid hV
      clear hV HT HE
      go_enter Tryd.func26, Tryd.ntmps26
      go_wp2_with fail
      refine HA.out.mono ?_; rintro e w1 ⟨rfl, hb1⟩
      have HB1 := hid hb1
      clear hb1
      go_wp2
      go_ret2
      exact ⟨by rw [HV.out]; rfl, HB1.out⟩
    by_cases hhi : most < v
    · rw [if_neg (fun h => by omega)] at hV
      have HV := hid hV
      clear hV HT HE
      go_enter Tryd.func26, Tryd.ntmps26
      go_wp2_with fail
      refine HA.out.mono ?_; rintro e w1 ⟨rfl, hb1⟩
      have HB1 := hid hb1
      clear hb1
      go_wp2
      go_ret2
      exact ⟨by rw [HV.out]; rfl, HB1.out⟩
    by_cases hi : Lib.itoa v = l
    · rw [if_pos ⟨hi, by omega, by omega⟩] at hV
      have HV := hid hV
      clear hV
      go_enter Tryd.func26, Tryd.ntmps26
      go_wp2_with fail
      refine HA.out.mono ?_; rintro e w1 ⟨rfl, hb1⟩
      have HB1 := hid hb1
      clear hb1
      go_wp2_with fail
      refine (HT.out _ (HE.out _ HB1.out)).mono ?_; rintro e w2 ⟨rfl, hb2⟩
      have HB2 := hid (HB1.out.trans (hb2.mono HB1.out.size))
      clear hb2
      go_wp2
      go_ret2
      exact ⟨by rw [HV.out]; rfl, HB2.out⟩
    · rw [if_neg (fun h => hi h.1)] at hV
      have HV := hid hV
      have hib : (Lib.itoa v == l) = false := beq_eq_false_iff_ne.2 hi
      clear hV hi
      go_enter Tryd.func26, Tryd.ntmps26
      go_wp2_with fail
      refine HA.out.mono ?_; rintro e w1 ⟨rfl, hb1⟩
      have HB1 := hid hb1
      clear hb1
      go_wp2_with fail
      refine (HT.out _ (HE.out _ HB1.out)).mono ?_; rintro e w2 ⟨rfl, hb2⟩
      have HB2 := hid (HB1.out.trans (hb2.mono HB1.out.size))
      clear hb2
      go_wp2
      go_ret2
      exact ⟨by rw [HV.out]; rfl, HB2.out⟩
  · rw [numO_bad (fun v h => hok ⟨v, h⟩)] at hV
    have HV := hid hV
    have HA := hid (atoi_bad l w hE hl (fun v h => hok ⟨v, h⟩))
    clear hok hV
    go_enter Tryd.func26, Tryd.ntmps26
    go_wp2_with fail
    refine HA.out.mono ?_; rintro e w1 ⟨⟨v, t, p, rfl⟩, hb1⟩
    have HB1 := hid hb1
    clear hb1
    go_wp2
    go_ret2
    exact ⟨by rw [HV.out]; rfl, HB1.out⟩

def ledT : Option DecV → Value
  | some d => .tuple #[.agg (decCells d), .bool true]
  | none => .tuple #[.agg #[.int .i64 0, .int .i64 0, .int .i64 0, .int .i64 0], .bool false]
theorem ret_dec2 {fn : Func} {p q : Tmp} (h : fn.results = #[.cell p 28, .tmp q]) {tmps : Array Value} {w : World} {b : Nat} {v : Value} (d : DecV) (hp : tmps.getD p undef = .pointer (some ⟨b, 0, none⟩)) (hq : tmps.getD q undef = v) (hB : w.heap[b]? = some (.cells (decCells d) 28 (0, 0))) :
    (results fn tmps).run Tryd.prog w = .ok (.tuple #[.agg (decCells d), v]) w := by
  have hp' : tmps[p]?.getD undef = .pointer (some ⟨b, 0, none⟩) := by simpa using hp
  have hq' : tmps[q]?.getD undef = v := by simpa using hq
  simp [results, h, hp', hq', asAddr, run_loadVar_row w b 28 28 (decCells d) (0, 0) _ hB Tryd.underlying28 rfl (by show _ = some 4; kernel_rfl)]
theorem built_d0 : Tryd.prog.built 28 [] = some #[.int .i64 0, .int .i64 0, .int .i64 0, .int .i64 0] := by
  rw [builtD_any]
  rfl
theorem built_d1 (k : Int) : Tryd.prog.built 28 [(0, .int .i64 k)] = some #[.int .i64 k, .int .i64 0, .int .i64 0, .int .i64 0] := by
  rw [builtD_any]
  rfl
theorem built_d3 (k s m : Int) : Tryd.prog.built 28 [(0, .int .i64 k), (1, .int .i64 s), (2, .int .i64 m)] = some #[.int .i64 k, .int .i64 s, .int .i64 m, .int .i64 0] := by
  rw [builtD_any]
  rfl
def LedP (o : Option DecV) (w : World) (e : Ending) (w' : World) : Prop := e = .returned (ledT o) ∧ Below w.heap.size w w'
theorem ledV_yes {k x y z : Int} {a b c : List UInt8} (h1 : numO a 16383 = some x) (h2 : numO b 63 = some y) (h3 : numO c 9223372036854775807 = some z) : ledV k a b c = some ⟨k, x, y, z⟩ := by unfold ledV; rw [h1, h2, h3]
theorem ledV_no1 {k : Int} {a b c : List UInt8} (h1 : numO a 16383 = none) : ledV k a b c = none := by unfold ledV; rw [h1]
theorem ledV_no2 {k : Int} {a b c : List UInt8} (h2 : numO b 63 = none) : ledV k a b c = none := by
  unfold ledV; rw [h2]; cases numO a 16383 <;> rfl
theorem ledV_no3 {k : Int} {a b c : List UInt8} (h3 : numO c 9223372036854775807 = none) : ledV k a b c = none := by
  unfold ledV; rw [h3]; cases numO a 16383 <;> cases numO b 63 <;> rfl
set_option maxHeartbeats 2000000 in
set_option maxRecDepth 100000 in
theorem led_any (k : Int) (a b c : List UInt8) (w : World) (hE : Env w) (ha : a.length ≤ 281474976710656) (hb : b.length ≤ 281474976710656) (hc : c.length ≤ 281474976710656) :
    Calls Tryd.prog 21 #[.int .i64 k, .string ⟨a.toArray⟩, .string ⟨b.toArray⟩, .string ⟨c.toArray⟩] w (LedP (ledV k a b c) w) := by
  have HE := hid fun (W : World) (hb : Below w.heap.size w W) => hE.below hb hE.room
  have HA := hid fun (W : World) h => number_any a 16383 W h ha
  have HB := hid fun (W : World) h => number_any b 63 W h hb
  have HC := hid fun (W : World) h => number_any c 9223372036854775807 W h hc
  have HZ := hid (heap_alloc_new w (.cells #[.int .i64 0, .int .i64 0, .int .i64 0, .int .i64 0] 28))
  have H0 := hid (below_alloc w (.cells #[.int .i64 0, .int .i64 0, .int .i64 0, .int .i64 0] 28))
  have HL : Hid (ledV k a b c = ledV k a b c) := rfl
  have HY : Hid (∀ x y z, numO a 16383 = some x → numO b 63 = some y → numO c 9223372036854775807 = some z → ledV k a b c = some ⟨k, x, y, z⟩) := fun x y z h1 h2 h3 => ledV_yes h1 h2 h3
  have HN : Hid (numO a 16383 = none ∨ numO b 63 = none ∨ numO c 9223372036854775807 = none → ledV k a b c = none) := fun h => by
    rcases h with h | h | h
    · exact ledV_no1 h
    · exact ledV_no2 h
    · exact ledV_no3 h
  generalize ledV k a b c = LV at *
  clear hE ha hb hc HL
  have iD : ∀ d : DecV, (Tryd.prog.info? 28).map (·.size) = some (decCells d).size := infoDec
  go_enter Tryd.func21, Tryd.ntmps21
  go_upto_region 1 with fail
  generalize w.alloc (.cells #[.int .i64 0, .int .i64 0, .int .i64 0, .int .i64 0] 28) = w0 at *
  go_wp2_with fail
  refine (HA.out w0 (HE.out _ H0.out)).mono ?_; rintro e w1 ⟨rfl, hb1⟩
  have HB1 := hid (H0.out.trans (hb1.out.mono H0.out.size))
  have HZ1 := hid ((hb1.out.block w.heap.size (Array.getElem?_eq_some_iff.1 HZ.out).1).trans HZ.out)
  clear hb1 HZ H0 HA
  rcases h1 : numO a 16383 with _ | x
  all_goals
    rw [h1] at HY HN
    simp only [numT]
    go_wp2_with fail
    refine (HB.out w1 (HE.out _ HB1.out)).mono ?_; rintro e w2 ⟨rfl, hb2⟩
    have HB2 := hid (HB1.out.trans (hb2.out.mono HB1.out.size))
    have HZ2 := hid ((hb2.out.block w.heap.size (Array.getElem?_eq_some_iff.1 HZ1.out).1).trans HZ1.out)
    clear hb2 HZ1 HB1
    rcases h2 : numO b 63 with _ | y
    all_goals
      rw [h2] at HY HN
      simp only [numT]
      go_wp2_with fail
      refine (HC.out w2 (HE.out _ HB2.out)).mono ?_; rintro e w3 ⟨rfl, hb3⟩
      have HB3 := hid (HB2.out.trans (hb3.out.mono HB2.out.size))
      have HZ3 := hid ((hb3.out.block w.heap.size (Array.getElem?_eq_some_iff.1 HZ2.out).1).trans HZ2.out)
      clear hb3 HZ2 HB2
      rcases h3 : numO c 9223372036854775807 with _ | z
      all_goals
        rw [h3] at HY HN
        simp only [numT]
        first
        | (have HR : Hid (LV = none) := HN.out (by simp)
           clear HY HN HC HB HE h1 h2 h3
           have hz : (#[.int .i64 0, .int .i64 0, .int .i64 0, .int .i64 0] : Array Value).size = (#[.int .i64 0, .int .i64 0, .int .i64 0, .int .i64 0] : Array Value).size := rfl
           go_wp2_with (refine wpList_store_row rfl 28 _ _ rfl w.heap.size #[.int .i64 0, .int .i64 0, .int .i64 0, .int .i64 0] rfl rfl 28 _ HZ3.out (iD ⟨0, 0, 0, 0⟩) hz (by simp [Value.oneCell']) ?_)
           refine bodyPost_ret (v := .tuple #[.agg #[.int .i64 0, .int .i64 0, .int .i64 0, .int .i64 0], .bool false]) (ret_dec2 rfl ⟨0, 0, 0, 0⟩ rfl rfl (setRow_heap w3 _ _ _ _ _ HZ3.out)) rfl ?_
           rw [HR.out]
           exact ⟨rfl, below_setRow HB3.out (Nat.le_refl _) _⟩)
        | (skip
           have HR : Hid (LV = some ⟨k, x, y, z⟩) := HY.out x y z rfl rfl rfl
           clear HY HN HC HB HE h1 h2 h3
           have hz : (#[.int .i64 0, .int .i64 0, .int .i64 0, .int .i64 0] : Array Value).size = (#[.int .i64 k, .int .i64 x, .int .i64 y, .int .i64 z] : Array Value).size := rfl
           go_wp2_with (refine wpList_store_row rfl 28 _ _ rfl w.heap.size #[.int .i64 k, .int .i64 x, .int .i64 y, .int .i64 z] rfl rfl 28 _ HZ3.out (iD ⟨k, x, y, z⟩) hz (by simp [Value.oneCell']) ?_)
           refine bodyPost_ret (v := .tuple #[.agg #[.int .i64 k, .int .i64 x, .int .i64 y, .int .i64 z], .bool true]) (ret_dec2 rfl ⟨k, x, y, z⟩ rfl rfl (setRow_heap w3 _ _ _ _ _ HZ3.out)) rfl ?_
           rw [HR.out]
           exact ⟨rfl, below_setRow HB3.out (Nat.le_refl _) _⟩)

end Go.Proofs.YtpmpndfinghlkaaDoor
