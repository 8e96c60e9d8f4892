/- What stands behind a line's first byte: readNumber, readText, Text, readBulk. -/
import Derived.Test.YtngkbacnajgmcaaDoorCut
namespace Go.Proofs.YtngkbacnajgmcaaDoor
open Go.RowKit

theorem infoRep (x y z u : Value) : (Tryd.prog.info? 24).map (·.size) = some (#[x, y, z, u] : Array Value).size := by
  show _ = some 4
  kernel_rfl
theorem oneR (x y : Int) (s : ByteArray) (a : Option Addr) (m n : Nat) : (#[.int .i64 x, .int .i64 y, .string s, .slice a m n] : Array Value).all (·.oneCell') = true := by simp [Value.oneCell']
theorem ret_rep1 {fn : Func} {p : Tmp} (h : fn.results = #[.cell p 24]) {tmps : Array Value} {w : World} {b : Nat} {x y z u : Value} (hp : tmps.getD p undef = .pointer (some ⟨b, 0, none⟩)) (hB : w.heap[b]? = some (.cells #[x, y, z, u] 24 (0, 0))) :
    (results fn tmps).run Tryd.prog w = .ok (.agg #[x, y, z, u]) w :=
  results_cell_row h tmps w b 24 #[x, y, z, u] (0, 0) _ hp hB Tryd.underlying24 rfl (infoRep x y z u)
theorem ret_rep2 {fn : Func} {p q : Tmp} (h : fn.results = #[.cell p 24, .tmp q]) {tmps : Array Value} {w : World} {b : Nat} {x y z u v : Value} (hp : tmps.getD p undef = .pointer (some ⟨b, 0, none⟩)) (hq : tmps.getD q undef = v) (hB : w.heap[b]? = some (.cells #[x, y, z, u] 24 (0, 0))) :
    (results fn tmps).run Tryd.prog w = .ok (.tuple #[.agg #[x, y, z, u], v]) w := by
  have hp' : tmps[p]?.getD undef = .pointer (some ⟨b, 0, none⟩) := by simpa using hp
  have hq' : tmps[q]?.getD undef = v := by simpa using hq
  simp [results, h, hp', hq', asAddr, run_loadVar_row w b 24 24 #[x, y, z, u] (0, 0) _ hB Tryd.underlying24 rfl (infoRep x y z u)]
theorem ret_rep3 {fn : Func} {p q s : Tmp} (h : fn.results = #[.cell p 24, .tmp q, .tmp s]) {tmps : Array Value} {w : World} {b : Nat} {x y z u v v' : Value} (hp : tmps.getD p undef = .pointer (some ⟨b, 0, none⟩)) (hq : tmps.getD q undef = v) (hs : tmps.getD s undef = v') (hB : w.heap[b]? = some (.cells #[x, y, z, u] 24 (0, 0))) :
    (results fn tmps).run Tryd.prog w = .ok (.tuple #[.agg #[x, y, z, u], v, v']) w := by
  have hp' : tmps[p]?.getD undef = .pointer (some ⟨b, 0, none⟩) := by simpa using hp
  have hq' : tmps[q]?.getD undef = v := by simpa using hq
  have hs' : tmps[s]?.getD undef = v' := by simpa using hs
  simp [results, h, hp', hq', hs', asAddr, run_loadVar_row w b 24 24 #[x, y, z, u] (0, 0) _ hB Tryd.underlying24 rfl (infoRep x y z u)]
theorem below_setRow {B : Nat} {a w : World} (h : Below B a w) {g : Nat} (hg : B ≤ g) (cs : Array Value) : Below B a (w.setRow g cs) :=
  h.trans ⟨rfl, rfl, rfl, by simp, fun k hk => setRow_other w g k cs (by omega)⟩
/-- what readNumber tells -/
def numVal : Option Int → Value
  | some n => .tuple #[.int .i64 n, .int .i64 0]
  | none => .tuple #[.int .i64 0, .int .i64 41]
theorem num_ok {l : List UInt8} {v least most : Int} (h : Lib.atoiAll l = .ok v) : num l least most = if Lib.itoa v = l ∧ least ≤ v ∧ v ≤ most then some v else none := by unfold num; rw [h]
set_option maxHeartbeats 1000000 in
set_option maxRecDepth 100000 in
/-- readNumber -/
theorem readNumber_any (l : List UInt8) (least most : Int) (w : World) (hE : Env w) (hl : l.length ≤ 281474976710656) (_h0 : -9223372036854775808 ≤ least) (_h1 : most ≤ 9223372036854775807) :
    Calls Tryd.prog 33 #[.string ⟨l.toArray⟩, .int .i64 least, .int .i64 most] w fun e w' => e = .returned (numVal (num l least most)) ∧ Hid (Below w.heap.size w w') := by
  obtain ⟨V, hV⟩ : ∃ V, V = numVal (num l least most) := ⟨_, rfl⟩
  rw [← hV]
  by_cases hok : ∃ v, Lib.atoiAll l = .ok v
  · obtain ⟨v, hv⟩ := hok
    have HA := hid (atoi_ok l v w hl hv)
    obtain ⟨hb0, hb1⟩ := Lib.atoiAll_bounds hv
    rw [num_ok hv] at hV
    have HT := hid (fun W h => itoa_any v W h hb0 hb1)
    have HE := hid fun (W : World) (hb : Below w.heap.size w W) => hE.below hb hE.room
    clear hE hv
    by_cases hi : Lib.itoa v = l
    · by_cases hlo : v < least
      · rw [if_neg (fun h => by omega)] at hV
        have HV := hid hV
        clear hV
        go_enter Tryd.func33, Tryd.ntmps33
        go_wp2_with fail
        refine HA.out.mono ?_; rintro e w1 ⟨rfl, hb1⟩
        have HB1 := hid hb1
        clear hb1
        go_wp2_with fail
        refine (HT.out _ (HE.out _ HB1.out)).mono ?_; rintro e w2 ⟨rfl, hb2⟩
        have HB2 := hid (HB1.out.trans (hb2.mono HB1.out.size))
        clear hb2
        go_wp2
        go_ret2
        exact ⟨by rw [HV.out]; rfl, HB2.out⟩
      · by_cases hhi : most < v
        · rw [if_neg (fun h => by omega)] at hV
          have HV := hid hV
          clear hV
          go_enter Tryd.func33, Tryd.ntmps33
          go_wp2_with fail
          refine HA.out.mono ?_; rintro e w1 ⟨rfl, hb1⟩
          have HB1 := hid hb1
          clear hb1
          go_wp2_with fail
          refine (HT.out _ (HE.out _ HB1.out)).mono ?_; rintro e w2 ⟨rfl, hb2⟩
          have HB2 := hid (HB1.out.trans (hb2.mono HB1.out.size))
          clear hb2
          go_wp2
          go_ret2
          exact ⟨by rw [HV.out]; rfl, HB2.out⟩
        · rw [if_pos ⟨hi, by omega, by omega⟩] at hV
          have HV := hid hV
          clear hV
          go_enter Tryd.func33, Tryd.ntmps33
          go_wp2_with fail
          refine HA.out.mono ?_; rintro e w1 ⟨rfl, hb1⟩
          have HB1 := hid hb1
          clear hb1
          go_wp2_with fail
          refine (HT.out _ (HE.out _ HB1.out)).mono ?_; rintro e w2 ⟨rfl, hb2⟩
          have HB2 := hid (HB1.out.trans (hb2.mono HB1.out.size))
          clear hb2
          go_wp2
          go_ret2
          exact ⟨by rw [HV.out]; rfl, HB2.out⟩
    · rw [if_neg (fun h => hi h.1)] at hV
      have HV := hid hV
      clear hV
      go_enter Tryd.func33, Tryd.ntmps33
      go_wp2_with fail
      refine HA.out.mono ?_; rintro e w1 ⟨rfl, hb1⟩
      have HB1 := hid hb1
      clear hb1
      go_wp2_with fail
      refine (HT.out _ (HE.out _ HB1.out)).mono ?_; rintro e w2 ⟨rfl, hb2⟩
      have HB2 := hid (HB1.out.trans (hb2.mono HB1.out.size))
      clear hb2
      go_wp2
      go_ret2
      exact ⟨by rw [HV.out]; rfl, HB2.out⟩
  · have hr : num l least most = none := by
      unfold num
      cases h : Lib.atoiAll l with
      | ok v => exact absurd ⟨v, h⟩ hok
      | «syntax» => rfl
      | range => rfl
    rw [hr] at hV
    have HV := hid hV
    have HA := hid (atoi_bad l w hE hl (fun v h => hok ⟨v, h⟩))
    clear hok hr hV
    go_enter Tryd.func33, Tryd.ntmps33
    go_wp2_with fail
    refine HA.out.mono ?_; rintro e w1 ⟨⟨v, t, p, rfl⟩, hb1⟩
    have HB1 := hid hb1
    clear hb1
    go_wp2
    go_ret2
    exact ⟨by rw [HV.out]; rfl, HB1.out⟩
set_option maxHeartbeats 1000000 in
set_option maxRecDepth 100000 in
/-- Text -/
theorem text_any (t : List UInt8) (w : World) :
    Calls Tryd.prog 23 #[.string ⟨t.toArray⟩] w fun e w' => e = .returned (.agg #[.int .i64 4, .int .i64 0, .string ⟨t.toArray⟩, .slice none 0 0]) ∧ Below w.heap.size w w' := by
  go_enter Tryd.func23, Tryd.ntmps23
  go_wp2
  refine bodyPost_ret (v := .agg #[.int .i64 4, .int .i64 0, .string ⟨t.toArray⟩, .slice none 0 0]) ?_ rfl ?_
  · exact ret_rep1 rfl rfl (heap_alloc_new w _)
  · exact ⟨rfl, below_alloc w _⟩
/-- what readText tells -/
def textVal (kd : Int) (t : List UInt8) : Value := if Pl t then .tuple #[.agg #[.int .i64 kd, .int .i64 0, .string ⟨t.toArray⟩, .slice none 0 0], .int .i64 0] else .tuple #[.agg #[.int .i64 0, .int .i64 0, .string ⟨#[]⟩, .slice none 0 0], .int .i64 41]
set_option maxHeartbeats 1000000 in
set_option maxRecDepth 100000 in
/-- readText -/
theorem readText_any (kd : Int) (t : List UInt8) (w : World) (hl : t.length ≤ 9223372036854775807) :
    Calls Tryd.prog 32 #[.int .i64 kd, .string ⟨t.toArray⟩] w fun e w' => e = .returned (textVal kd t) ∧ Hid (Below w.heap.size w w') := by
  have HI := hid fun w => isLine_any t w hl
  have HZ := hid fun (o : Obj) => heap_alloc_new w o
  by_cases hp : Pl t
  · have hV : textVal kd t = .tuple #[.agg #[.int .i64 kd, .int .i64 0, .string ⟨t.toArray⟩, .slice none 0 0], .int .i64 0] := by unfold textVal; rw [if_pos hp]
    rw [hV]
    simp only [decide_eq_true hp] at HI
    clear hp hV
    go_enter Tryd.func32, Tryd.ntmps32
    go_wp2_with fail
    refine (HI.out _).mono ?_; rintro e w2 ⟨rfl, hb⟩
    have HB := hid hb.out
    have HR := hid ((HB.out.block _ (by simp)).trans (HZ.out _))
    clear hb
    go_wp2_with (refine wpList_store_row rfl 24 _ _ rfl w.heap.size #[.int .i64 kd, .int .i64 0, .string ⟨t.toArray⟩, .slice none 0 0] rfl rfl 24 _ HR.out (infoRep _ _ _ _) rfl (oneR _ _ _ _ _ _) ?_)
    refine bodyPost_ret (v := .tuple #[.agg #[.int .i64 kd, .int .i64 0, .string ⟨t.toArray⟩, .slice none 0 0], .int .i64 0]) ?_ rfl ?_
    · exact ret_rep2 rfl rfl rfl (setRow_heap w2 _ _ _ _ _ HR.out)
    · exact ⟨rfl, below_setRow ((below_alloc w _).trans (HB.out.mono (by simp))) (Nat.le_refl _) _⟩
  · have hV : textVal kd t = .tuple #[.agg #[.int .i64 0, .int .i64 0, .string ⟨#[]⟩, .slice none 0 0], .int .i64 41] := by unfold textVal; rw [if_neg hp]
    rw [hV]
    simp only [decide_eq_false hp] at HI
    clear hp hV
    go_enter Tryd.func32, Tryd.ntmps32
    go_wp2_with fail
    refine (HI.out _).mono ?_; rintro e w2 ⟨rfl, hb⟩
    have HB := hid hb.out
    have HR := hid ((HB.out.block _ (by simp)).trans (HZ.out _))
    clear hb
    go_wp2_with (refine wpList_store_row rfl 24 _ _ rfl w.heap.size #[.int .i64 0, .int .i64 0, .string ⟨#[]⟩, .slice none 0 0] rfl rfl 24 _ HR.out (infoRep _ _ _ _) rfl (oneR _ _ _ _ _ _) ?_)
    refine bodyPost_ret (v := .tuple #[.agg #[.int .i64 0, .int .i64 0, .string ⟨#[]⟩, .slice none 0 0], .int .i64 41]) ?_ rfl ?_
    · exact ret_rep2 rfl rfl rfl (setRow_heap w2 _ _ _ _ _ HR.out)
    · exact ⟨rfl, below_setRow ((below_alloc w _).trans (HB.out.mono (by simp))) (Nat.le_refl _) _⟩

end Go.Proofs.YtngkbacnajgmcaaDoor
