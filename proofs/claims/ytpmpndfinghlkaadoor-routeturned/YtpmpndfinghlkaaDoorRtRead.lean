/- What a client is told, read: the program's Read. -/
import Derived.Test.YtpmpndfinghlkaaDoorRtNum
import Derived.Test.YtpmpndfinghlkaaDoorRtSplit
import Derived.Deep.RegionHeld3
namespace Go.Proofs.YtpmpndfinghlkaaDoor
open Go.RowKit

theorem spl4_few {l : List UInt8} (h : (spl 4 l).length < 5) : pcs l = spl 4 l := by
  have := spl_pcs 4 l
  by_cases e : (pcs l).length ≤ 5
  · exact (this.1 e).symm
  · have := this.2 (by omega); omega
theorem spl4_many {l : List UInt8} (h : (spl 4 l).length = 5) : 5 ≤ (pcs l).length := by
  have := spl_pcs 4 l
  by_cases e : (pcs l).length ≤ 5
  · rw [← this.1 e]; omega
  · omega
theorem spl4_le (l : List UInt8) : (spl 4 l).length ≤ 5 := by
  have := spl_pcs 4 l
  by_cases e : (pcs l).length ≤ 5
  · rw [this.1 e]; exact e
  · rw [this.2 (by omega)]; decide
theorem readV_3 {l x a b : List UInt8} (h4 : l ≠ wAgain) (h5 : l ≠ wCross) (h6 : l ≠ wDown) (hp : pcs l = [x, a, b]) : readV l = if x = wMoved then ledV 2 a b [48] else none := by
  unfold readV; rw [if_neg h4, if_neg h5, if_neg h6, hp]
theorem readV_4 {l x a b c : List UInt8} (h4 : l ≠ wAgain) (h5 : l ≠ wCross) (h6 : l ≠ wDown) (hp : pcs l = [x, a, b, c]) : readV l = if x = wAsk then ledV 3 a b c else none := by
  unfold readV; rw [if_neg h4, if_neg h5, if_neg h6, hp]
theorem readV_none {l : List UInt8} (h4 : l ≠ wAgain) (h5 : l ≠ wCross) (h6 : l ≠ wDown) (h3 : (pcs l).length ≠ 3) (h7 : (pcs l).length ≠ 4) : readV l = none := by
  unfold readV; rw [if_neg h4, if_neg h5, if_neg h6]
  split
  · rename_i e; rw [e] at h3; simp at h3
  · rename_i e; rw [e] at h7; simp at h7
  · rfl
theorem list3 {α : Type} {L : List α} (h : L.length = 3) : ∃ x y z, L = [x, y, z] := by
  match L, h with
  | [x, y, z], _ => exact ⟨x, y, z, rfl⟩
theorem list4 {α : Type} {L : List α} (h : L.length = 4) : ∃ x y z u, L = [x, y, z, u] := by
  match L, h with
  | [x, y, z, u], _ => exact ⟨x, y, z, u, rfl⟩
theorem pcs_size : ∀ (k : Nat) (l p : List UInt8), l.length ≤ k → p ∈ pcs l → p.length ≤ l.length
  | 0, l, p, h, hm => by
    rw [List.length_eq_zero_iff.1 (Nat.le_zero.1 h)] at hm ⊢
    simp [pcs] at hm
    rw [hm]; exact Nat.le_refl _
  | k + 1, l, p, h, hm => by
    rcases pcs_cases l with ⟨-, e⟩ | ⟨q, r, rfl, -, e⟩
    · rw [e] at hm; simp at hm; rw [hm]; exact Nat.le_refl _
    · rw [e] at hm
      rcases List.mem_cons.1 hm with rfl | hm
      · simp
      · have := pcs_size k r p (by simp at h; omega) hm
        simp; omega
/-- a whole decision kept, none -/
theorem led_none {o : Option DecV} (h : o = none) {w W : World} (hb : Below w.heap.size w W) : LedP o w (.returned (.tuple #[.agg #[.int .i64 0, .int .i64 0, .int .i64 0, .int .i64 0], .bool false])) W := by
  subst h; exact ⟨rfl, hb⟩
theorem led_some {o : Option DecV} {k s n t : Int} (h : o = some ⟨k, s, n, t⟩) {w W : World} (hb : Below w.heap.size w W) : LedP o w (.returned (.tuple #[.agg #[.int .i64 k, .int .i64 s, .int .i64 n, .int .i64 t], .bool true])) W := by
  subst h; exact ⟨rfl, hb⟩
/-- what a decision is told as, in parts -/
def ledC (o : Option DecV) : Array Value := match o with | some d => decCells d | none => #[.int .i64 0, .int .i64 0, .int .i64 0, .int .i64 0]
def ledB (o : Option DecV) : Bool := o.isSome
theorem ledT_parts (o : Option DecV) : ledT o = .tuple #[.agg (ledC o), .bool (ledB o)] := by cases o <;> rfl
theorem ledC_size (o : Option DecV) : (ledC o).size = 4 := by cases o <;> rfl
theorem ledC_one (o : Option DecV) : (ledC o).all (·.oneCell') = true := by cases o <;> simp [ledC, decCells, Value.oneCell']
theorem ret_led2 {fn : Func} {p q : Tmp} (h : fn.results = #[.cell p 28, .tmp q]) {tmps : Array Value} {w : World} {b : Nat} {v : Value} (C : Array Value) (hC : C.size = 4) (hp : tmps.getD p undef = .pointer (some ⟨b, 0, none⟩)) (hq : tmps.getD q undef = v) (hB : w.heap[b]? = some (.cells C 28 (0, 0))) :
    (results fn tmps).run Tryd.prog w = .ok (.tuple #[.agg C, v]) w := by
  have hp' : tmps[p]?.getD undef = .pointer (some ⟨b, 0, none⟩) := by simpa using hp
  have hq' : tmps[q]?.getD undef = v := by simpa using hq
  simp [results, h, hp', hq', asAddr, run_loadVar_row w b 28 28 C (0, 0) _ hB Tryd.underlying28 rfl (by rw [hC]; show _ = some 4; kernel_rfl)]
set_option maxHeartbeats 8000000 in
set_option maxRecDepth 100000 in
theorem read_any (l : List UInt8) (w : World) (hE : Env w) (hl : l.length ≤ 281474976710656) : Calls Tryd.prog 13 #[.string ⟨l.toArray⟩] w (LedP (readV l) w) := by
  have HZ1 := hid (heap_alloc_new w (.cells #[.int .i64 0, .int .i64 0, .int .i64 0, .int .i64 0] 28))
  have HB1 := hid (below_alloc w (.cells #[.int .i64 0, .int .i64 0, .int .i64 0, .int .i64 0] 28))
  by_cases h4 : l = wAgain
  · subst h4
    clear hl hE
    go_enter Tryd.func13, Tryd.ntmps13
    go_upto_region 1 with fail
    generalize w.alloc (.cells #[.int .i64 0, .int .i64 0, .int .i64 0, .int .i64 0] 28) = w1 at *
    have HV : Hid (readV wAgain = some ⟨4, 0, 0, 0⟩) := by unfold Hid readV; rw [if_pos rfl]
    have iD := infoDec
    have zD : (#[.int .i64 0, .int .i64 0, .int .i64 0, .int .i64 0] : Array Value).size = (#[.int .i64 4, .int .i64 0, .int .i64 0, .int .i64 0] : Array Value).size := rfl
    generalize readV wAgain = RV at *
    unfold wAgain
    go_wp2_with (refine wpList_store_row rfl 28 _ _ rfl w.heap.size #[.int .i64 4, .int .i64 0, .int .i64 0, .int .i64 0] rfl rfl 28 _ HZ1.out (iD ⟨4, 0, 0, 0⟩) rfl (by simp [Value.oneCell']) ?_)
    refine bodyPost_ret (v := .tuple #[.agg #[.int .i64 4, .int .i64 0, .int .i64 0, .int .i64 0], .bool true]) (ret_dec2 rfl ⟨4, 0, 0, 0⟩ rfl rfl (setRow_heap w1 _ _ _ _ _ HZ1.out)) rfl ?_
    exact led_some HV.out (below_setRow HB1.out (Nat.le_refl _) _)
  by_cases h5 : l = wCross
  · subst h5
    clear hl hE h4
    go_enter Tryd.func13, Tryd.ntmps13
    go_upto_region 1 with fail
    generalize w.alloc (.cells #[.int .i64 0, .int .i64 0, .int .i64 0, .int .i64 0] 28) = w1 at *
    have HV : Hid (readV wCross = some ⟨5, 0, 0, 0⟩) := by unfold Hid readV; rw [if_neg (by decide), if_pos rfl]
    have iD := infoDec
    have zD : (#[.int .i64 0, .int .i64 0, .int .i64 0, .int .i64 0] : Array Value).size = (#[.int .i64 5, .int .i64 0, .int .i64 0, .int .i64 0] : Array Value).size := rfl
    generalize readV wCross = RV at *
    unfold wCross
    go_wp2_with (refine wpList_store_row rfl 28 _ _ rfl w.heap.size #[.int .i64 5, .int .i64 0, .int .i64 0, .int .i64 0] rfl rfl 28 _ HZ1.out (iD ⟨5, 0, 0, 0⟩) rfl (by simp [Value.oneCell']) ?_)
    refine bodyPost_ret (v := .tuple #[.agg #[.int .i64 5, .int .i64 0, .int .i64 0, .int .i64 0], .bool true]) (ret_dec2 rfl ⟨5, 0, 0, 0⟩ rfl rfl (setRow_heap w1 _ _ _ _ _ HZ1.out)) rfl ?_
    exact led_some HV.out (below_setRow HB1.out (Nat.le_refl _) _)
  by_cases h6 : l = wDown
  · subst h6
    clear hl hE h4 h5
    go_enter Tryd.func13, Tryd.ntmps13
    go_upto_region 1 with fail
    generalize w.alloc (.cells #[.int .i64 0, .int .i64 0, .int .i64 0, .int .i64 0] 28) = w1 at *
    have HV : Hid (readV wDown = some ⟨6, 0, 0, 0⟩) := by unfold Hid readV; rw [if_neg (by decide), if_neg (by decide), if_pos rfl]
    have iD := infoDec
    have zD : (#[.int .i64 0, .int .i64 0, .int .i64 0, .int .i64 0] : Array Value).size = (#[.int .i64 6, .int .i64 0, .int .i64 0, .int .i64 0] : Array Value).size := rfl
    generalize readV wDown = RV at *
    unfold wDown
    go_wp2_with (refine wpList_store_row rfl 28 _ _ rfl w.heap.size #[.int .i64 6, .int .i64 0, .int .i64 0, .int .i64 0] rfl rfl 28 _ HZ1.out (iD ⟨6, 0, 0, 0⟩) rfl (by simp [Value.oneCell']) ?_)
    refine bodyPost_ret (v := .tuple #[.agg #[.int .i64 6, .int .i64 0, .int .i64 0, .int .i64 0], .bool true]) (ret_dec2 rfl ⟨6, 0, 0, 0⟩ rfl rfl (setRow_heap w1 _ _ _ _ _ HZ1.out)) rfl ?_
    exact led_some HV.out (below_setRow HB1.out (Nat.le_refl _) _)
  have e4 : (l == [84, 82, 89, 65, 71, 65, 73, 78]) = false := beq_eq_false_iff_ne.2 h4
  have e5 : (l == [67, 82, 79, 83, 83, 83, 76, 79, 84]) = false := beq_eq_false_iff_ne.2 h5
  have e6 : (l == [67, 76, 85, 83, 84, 69, 82, 68, 79, 87, 78]) = false := beq_eq_false_iff_ne.2 h6
  have HE := hid fun (W : World) (hb : Below w.heap.size w W) => hE.below hb hE.room
  have H456 : Hid (l ≠ wAgain ∧ l ≠ wCross ∧ l ≠ wDown) := ⟨h4, h5, h6⟩
  have HLl := hid fun p hp => Nat.le_trans (pcs_size _ l p (Nat.le_refl _) hp) hl
  have HS := hid fun W => splitN_any l W hl
  clear h4 h5 h6 hE hl
  go_enter Tryd.func13, Tryd.ntmps13
  go_upto_region 1 with fail
  generalize w.alloc (.cells #[.int .i64 0, .int .i64 0, .int .i64 0, .int .i64 0] 28) = w1 at *
  go_wp2_with fail
  refine (HS.out w1).mono ?_; rintro e w2 ⟨cp, rfl, hcp, hcl, hg, hb⟩
  have HB := hid (HB1.out.trans (hb.mono HB1.out.size))
  have HZ := hid ((hb.block w.heap.size (Array.getElem?_eq_some_iff.1 HZ1.out).1).trans HZ1.out)
  have hle := spl4_le l
  have HF := hid (spl4_few (l := l))
  have HMy := hid (spl4_many (l := l))
  generalize spl 4 l = S at *
  have hgw : w1.heap.size ≠ w.heap.size := by have := (Array.getElem?_eq_some_iff.1 HZ1.out).1; omega
  generalize w1.heap.size = g at *
  clear HS HZ1 HB1 hb e4 e5 e6
  by_cases m3 : S.length = 3
  · obtain ⟨x, a, b, rfl⟩ := list3 m3
    have hp := HF.out (by simp)
    have x0 := hcl 0 (by simp)
    have x1 := hcl 1 (by simp)
    have x2 := hcl 2 (by simp)
    replace x0 : w2.cell? ⟨g, 0, none⟩ = some (.string ⟨x.toArray⟩) := x0
    replace x1 : w2.cell? ⟨g, 1, none⟩ = some (.string ⟨a.toArray⟩) := x1
    replace x2 : w2.cell? ⟨g, 2, none⟩ = some (.string ⟨b.toArray⟩) := x2
    have hla := HLl.out a (by rw [hp]; simp)
    have hlb := HLl.out b (by rw [hp]; simp)
    have HR3 := hid (readV_3 H456.out.1 H456.out.2.1 H456.out.2.2 hp)
    clear hcl HF HMy hp H456 m3 hle hcp HLl
    by_cases hx : x = wMoved
    · subst hx
      have q0 : w2.cell? ⟨g, 0, none⟩ = some (.string ⟨#[77, 79, 86, 69, 68]⟩) := x0
      clear x0
      go_upto_region 10 with fail
      have HV : Hid (readV l = ledV 2 a b [48]) := by have h := HR3.out; rwa [if_pos trivial] at h
      have HL1 := hid fun (W : World) (h : Env W) => led_any 2 a b [48] W h (by omega) (by omega) (by decide)
      generalize ledV 2 a b [48] = LV at *
      generalize readV l = RV at *
      refine wp_region_noPanic ?_
      refine wp_region_held_drew (S := fun W => W.cell? ⟨g, 1, none⟩ = some (.string ⟨a.toArray⟩) ∧ W.cell? ⟨g, 2, none⟩ = some (.string ⟨b.toArray⟩)) (by kernel_rfl) ⟨x1, x2⟩ (fun hHeld => ?_)
      refine wpAnyH_take (i := 0) (oi := { dst := some 27, op := Op.move (Operand.tmp 4), type := 42, pos := "route.go:117", after := #[], guard := none }) (v := .slice (some ⟨g, 0, none⟩) 3 cp) rfl (by kernel_rfl) (by kernel_rfl) (by kernel_rfl) (fun _ _ _ h => h) (Or.inl ⟨by rfl, fun wS hSw => ?_⟩) (by assumption) ?_
      · clear hHeld
        clear hSw
        go_simp
      try simp only [Act.put, List.setIfInBounds_toArray, List.set_cons_zero, List.set_cons_succ]
      refine wpAnyH_take (i := 1) (oi := { dst := some 28, op := Op.indexAddr 42 (Operand.tmp 27) (Operand.const (Value.int IntKind.i64 1)), type := 0, pos := "route.go:117", after := #[{ on := 0, ground := Ground.data }], guard := none }) (v := .pointer (some ⟨g, 1, none⟩)) rfl (by kernel_rfl) (by kernel_rfl) (by kernel_rfl) (fun _ _ _ h => h) (Or.inl ⟨by rfl, fun wS hSw => ?_⟩) (by assumption) ?_
      · clear hHeld
        clear hSw
        go_simp
      try simp only [Act.put, List.setIfInBounds_toArray, List.set_cons_zero, List.set_cons_succ]
      refine wpAnyH_take (i := 2) (oi := { dst := some 29, op := Op.load 9 (Operand.tmp 28), type := 9, pos := "route.go:117", after := #[{ on := 1, ground := Ground.data }], guard := none }) (v := .string ⟨a.toArray⟩) rfl (by kernel_rfl) (by kernel_rfl) (by kernel_rfl) (fun _ _ _ h => h) (Or.inl ⟨by rfl, fun wS hSw => ?_⟩) (by assumption) ?_
      · clear hHeld
        obtain ⟨y1, y2⟩ := hSw
        go_simp
      try simp only [Act.put, List.setIfInBounds_toArray, List.set_cons_zero, List.set_cons_succ]
      refine wpAnyH_take (i := 3) (oi := { dst := some 30, op := Op.move (Operand.tmp 4), type := 42, pos := "route.go:117", after := #[], guard := none }) (v := .slice (some ⟨g, 0, none⟩) 3 cp) rfl (by kernel_rfl) (by kernel_rfl) (by kernel_rfl) (fun _ _ _ h => h) (Or.inl ⟨by rfl, fun wS hSw => ?_⟩) (by assumption) ?_
      · clear hHeld
        clear hSw
        go_simp
      try simp only [Act.put, List.setIfInBounds_toArray, List.set_cons_zero, List.set_cons_succ]
      refine wpAnyH_take (i := 4) (oi := { dst := some 31, op := Op.indexAddr 42 (Operand.tmp 30) (Operand.const (Value.int IntKind.i64 2)), type := 0, pos := "route.go:117", after := #[{ on := 3, ground := Ground.data }], guard := none }) (v := .pointer (some ⟨g, 2, none⟩)) rfl (by kernel_rfl) (by kernel_rfl) (by kernel_rfl) (fun _ _ _ h => h) (Or.inl ⟨by rfl, fun wS hSw => ?_⟩) (by assumption) ?_
      · clear hHeld
        clear hSw
        go_simp
      try simp only [Act.put, List.setIfInBounds_toArray, List.set_cons_zero, List.set_cons_succ]
      refine wpAnyH_take (i := 5) (oi := { dst := some 32, op := Op.load 9 (Operand.tmp 31), type := 9, pos := "route.go:117", after := #[{ on := 4, ground := Ground.data }], guard := none }) (v := .string ⟨b.toArray⟩) rfl (by kernel_rfl) (by kernel_rfl) (by kernel_rfl) (fun _ _ _ h => h) (Or.inl ⟨by rfl, fun wS hSw => ?_⟩) (by assumption) ?_
      · clear hHeld
        obtain ⟨y1, y2⟩ := hSw
        go_simp
      try simp only [Act.put, List.setIfInBounds_toArray, List.set_cons_zero, List.set_cons_succ]
      refine wpAnyH_ready (rs := [6]) (by kernel_rfl) (by simp) ?_
      refine AllReadyH.cons (o := { dst := some 33, op := Op.call { callee := Callee.value (Operand.func 21), args := #[Operand.const (Value.int IntKind.i64 2), Operand.tmp 29, Operand.tmp 32, Operand.const (Value.string { data := #[48] })], argTypes := #[3, 9, 9, 9] }, type := 34, pos := "route.go:117", after := #[{ on := 2, ground := Ground.data }, { on := 5, ground := Ground.data }], guard := none }) rfl (fun K hK => ?_) AllReadyH.nil
      clear hHeld
      go_simp
      refine (HL1.out _ (HE.out _ (HB.out.drew))).mono ?_; rintro e w3 ⟨rfl, hb⟩
      have HB3 := hid (HB.out.drew.trans (hb.mono HB.out.size))
      have HZ3 := hid ((hb.block w.heap.size (Array.getElem?_eq_some_iff.1 HZ.out).1).trans HZ.out)
      have hs3 : (fun W : World => W.cell? ⟨g, 1, none⟩ = some (.string ⟨a.toArray⟩) ∧ W.cell? ⟨g, 2, none⟩ = some (.string ⟨b.toArray⟩)) w3 := by
        refine ⟨?_, ?_⟩
        · rw [hb.cell (p := ⟨g, 1, none⟩) hg]; exact x1
        · rw [hb.cell (p := ⟨g, 2, none⟩) hg]; exact x2
      rw [ledT_parts]
      clear hb
      try go_wp2_with fail
      refine hK.out _ _ hs3 (fun hHeld => ?_)
      clear hK K
      try simp only [Act.put, List.setIfInBounds_toArray, List.set_cons_zero, List.set_cons_succ]
      refine wpAnyH_take (i := 7) (oi := { dst := some 34, op := Op.extract (Operand.tmp 33) 0, type := 28, pos := "route.go:117", after := #[{ on := 6, ground := Ground.data }], guard := none }) (v := .agg (ledC LV)) rfl (by kernel_rfl) (by kernel_rfl) (by kernel_rfl) (fun _ _ _ h => h) (Or.inl ⟨by rfl, fun wS hSw => ?_⟩) (by assumption) ?_
      · clear hHeld
        clear hSw
        go_simp
      try simp only [Act.put, List.setIfInBounds_toArray, List.set_cons_zero, List.set_cons_succ]
      refine wpAnyH_take (i := 8) (oi := { dst := some 35, op := Op.extract (Operand.tmp 33) 1, type := 4, pos := "route.go:117", after := #[{ on := 6, ground := Ground.data }], guard := none }) (v := .bool (ledB LV)) rfl (by kernel_rfl) (by kernel_rfl) (by kernel_rfl) (fun _ _ _ h => h) (Or.inl ⟨by rfl, fun wS hSw => ?_⟩) (by assumption) ?_
      · clear hHeld
        clear hSw
        go_simp
      try simp only [Act.put, List.setIfInBounds_toArray, List.set_cons_zero, List.set_cons_succ]
      refine wpAnyH_ready (rs := [9]) (by kernel_rfl) (by simp) ?_
      refine AllReadyH.cons (o := { dst := none, op := Op.store 28 (Operand.tmp 2) (Operand.tmp 34), type := 0, pos := "route.go:117", after := #[{ on := 7, ground := Ground.data }, { on := 6, ground := Ground.chain }, { on := 0, ground := Ground.phase }, { on := 1, ground := Ground.phase }, { on := 2, ground := Ground.phase }, { on := 3, ground := Ground.phase }, { on := 4, ground := Ground.phase }, { on := 5, ground := Ground.phase }, { on := 6, ground := Ground.phase }, { on := 7, ground := Ground.phase }, { on := 8, ground := Ground.phase }], guard := none }) rfl (fun K hK => ?_) AllReadyH.nil
      refine wp_store_row 28 _ _ rfl w.heap.size (ledC LV) rfl rfl 28 _ HZ3.out (by rw [ledC_size]; show _ = some 4; kernel_rfl) (by rw [ledC_size]; rfl) (ledC_one _) ?_
      have hs4 : (fun W : World => W.cell? ⟨g, 1, none⟩ = some (.string ⟨a.toArray⟩) ∧ W.cell? ⟨g, 2, none⟩ = some (.string ⟨b.toArray⟩)) (w3.setRow w.heap.size (ledC LV)) := by
        obtain ⟨z1, z2⟩ := hs3
        refine ⟨?_, ?_⟩
        · exact (World.cell?_of_block (w := w3) (a := ⟨g, 1, none⟩) (setRow_other w3 w.heap.size g _ hgw)).trans z1
        · exact (World.cell?_of_block (w := w3) (a := ⟨g, 2, none⟩) (setRow_other w3 w.heap.size g _ hgw)).trans z2
      refine hK.out _ _ hs4 (fun hHeld => ?_)
      clear hK K
      try simp only [Act.put]
      refine wpAnyH_take (i := 10) (oi := { dst := some 3, op := Op.assign (Operand.tmp 35), type := 4, pos := "route.go:117", after := #[{ on := 8, ground := Ground.data }, { on := 9, ground := Ground.chain }, { on := 0, ground := Ground.phase }, { on := 1, ground := Ground.phase }, { on := 2, ground := Ground.phase }, { on := 3, ground := Ground.phase }, { on := 4, ground := Ground.phase }, { on := 5, ground := Ground.phase }, { on := 6, ground := Ground.phase }, { on := 7, ground := Ground.phase }, { on := 8, ground := Ground.phase }, { on := 9, ground := Ground.phase }], guard := none }) (v := .bool (ledB LV)) rfl (by kernel_rfl) (by kernel_rfl) (by kernel_rfl) (fun _ _ _ h => h) (Or.inl ⟨by rfl, fun wS hSw => ?_⟩) (by assumption) ?_
      · clear hHeld
        clear hSw
        go_simp
      try simp only [Act.put, List.setIfInBounds_toArray, List.set_cons_zero, List.set_cons_succ]
      clear hHeld
      refine wpAnyH_done (by kernel_rfl) ?_ _
      refine NoPanic.normal ?_
      go_wp2_with fail
      refine bodyPost_ret (v := .tuple #[.agg (ledC LV), .bool (ledB LV)]) (ret_led2 rfl (ledC LV) (ledC_size _) rfl rfl (setRow_heap w3 _ _ _ _ _ HZ3.out)) rfl ?_
      rw [HV.out]
      exact ⟨by rw [ledT_parts], below_setRow HB3.out (Nat.le_refl _) _⟩
    · have hxe : (x == [77, 79, 86, 69, 68]) = false := beq_eq_false_iff_ne.2 hx
      have HV : Hid (readV l = none) := by have h := HR3.out; rwa [if_neg hx] at h
      have iD := infoDec
      have zD : (#[.int .i64 0, .int .i64 0, .int .i64 0, .int .i64 0] : Array Value).size = (#[.int .i64 0, .int .i64 0, .int .i64 0, .int .i64 0] : Array Value).size := rfl
      generalize readV l = RV at *
      
      go_wp2_with (refine wpList_store_row rfl 28 _ _ rfl w.heap.size #[.int .i64 0, .int .i64 0, .int .i64 0, .int .i64 0] rfl rfl 28 _ HZ.out (iD ⟨0, 0, 0, 0⟩) rfl (by simp [Value.oneCell']) ?_)
      refine bodyPost_ret (v := .tuple #[.agg #[.int .i64 0, .int .i64 0, .int .i64 0, .int .i64 0], .bool false]) (ret_dec2 rfl ⟨0, 0, 0, 0⟩ rfl rfl (setRow_heap w2 _ _ _ _ _ HZ.out)) rfl ?_
      exact led_none HV.out (below_setRow HB.out (Nat.le_refl _) _)
  by_cases m4 : S.length = 4
  · obtain ⟨x, a, b, c, rfl⟩ := list4 m4
    have hp := HF.out (by simp)
    have x0 := hcl 0 (by simp)
    have x1 := hcl 1 (by simp)
    have x2 := hcl 2 (by simp)
    have x3 := hcl 3 (by simp)
    replace x0 : w2.cell? ⟨g, 0, none⟩ = some (.string ⟨x.toArray⟩) := x0
    replace x1 : w2.cell? ⟨g, 1, none⟩ = some (.string ⟨a.toArray⟩) := x1
    replace x2 : w2.cell? ⟨g, 2, none⟩ = some (.string ⟨b.toArray⟩) := x2
    replace x3 : w2.cell? ⟨g, 3, none⟩ = some (.string ⟨c.toArray⟩) := x3
    have hla := HLl.out a (by rw [hp]; simp)
    have hlb := HLl.out b (by rw [hp]; simp)
    have hlc := HLl.out c (by rw [hp]; simp)
    have HR3 := hid (readV_4 H456.out.1 H456.out.2.1 H456.out.2.2 hp)
    clear hcl HF HMy hp H456 m3 m4 hle hcp HLl
    by_cases hx : x = wAsk
    · subst hx
      have q0 : w2.cell? ⟨g, 0, none⟩ = some (.string ⟨#[65, 83, 75]⟩) := x0
      clear x0
      go_upto_region 12 with fail
      have HV : Hid (readV l = ledV 3 a b c) := by have h := HR3.out; rwa [if_pos trivial] at h
      have HL1 := hid fun (W : World) (h : Env W) => led_any 3 a b c W h (by omega) (by omega) (by omega)
      generalize ledV 3 a b c = LV at *
      generalize readV l = RV at *
      refine wp_region_noPanic ?_
      refine wp_region_held_drew (S := fun W => W.cell? ⟨g, 1, none⟩ = some (.string ⟨a.toArray⟩) ∧ W.cell? ⟨g, 2, none⟩ = some (.string ⟨b.toArray⟩) ∧ W.cell? ⟨g, 3, none⟩ = some (.string ⟨c.toArray⟩)) (by kernel_rfl) ⟨x1, x2, x3⟩ (fun hHeld => ?_)
      refine wpAnyH_take (i := 0) (oi := { dst := some 46, op := Op.move (Operand.tmp 4), type := 42, pos := "route.go:119", after := #[], guard := none }) (v := .slice (some ⟨g, 0, none⟩) 4 cp) rfl (by kernel_rfl) (by kernel_rfl) (by kernel_rfl) (fun _ _ _ h => h) (Or.inl ⟨by rfl, fun wS hSw => ?_⟩) (by assumption) ?_
      · clear hHeld
        clear hSw
        go_simp
      try simp only [Act.put, List.setIfInBounds_toArray, List.set_cons_zero, List.set_cons_succ]
      refine wpAnyH_take (i := 1) (oi := { dst := some 47, op := Op.indexAddr 42 (Operand.tmp 46) (Operand.const (Value.int IntKind.i64 1)), type := 0, pos := "route.go:119", after := #[{ on := 0, ground := Ground.data }], guard := none }) (v := .pointer (some ⟨g, 1, none⟩)) rfl (by kernel_rfl) (by kernel_rfl) (by kernel_rfl) (fun _ _ _ h => h) (Or.inl ⟨by rfl, fun wS hSw => ?_⟩) (by assumption) ?_
      · clear hHeld
        clear hSw
        go_simp
      try simp only [Act.put, List.setIfInBounds_toArray, List.set_cons_zero, List.set_cons_succ]
      refine wpAnyH_take (i := 2) (oi := { dst := some 48, op := Op.load 9 (Operand.tmp 47), type := 9, pos := "route.go:119", after := #[{ on := 1, ground := Ground.data }], guard := none }) (v := .string ⟨a.toArray⟩) rfl (by kernel_rfl) (by kernel_rfl) (by kernel_rfl) (fun _ _ _ h => h) (Or.inl ⟨by rfl, fun wS hSw => ?_⟩) (by assumption) ?_
      · clear hHeld
        obtain ⟨y1, y2, y3⟩ := hSw
        go_simp
      try simp only [Act.put, List.setIfInBounds_toArray, List.set_cons_zero, List.set_cons_succ]
      refine wpAnyH_take (i := 3) (oi := { dst := some 49, op := Op.move (Operand.tmp 4), type := 42, pos := "route.go:119", after := #[], guard := none }) (v := .slice (some ⟨g, 0, none⟩) 4 cp) rfl (by kernel_rfl) (by kernel_rfl) (by kernel_rfl) (fun _ _ _ h => h) (Or.inl ⟨by rfl, fun wS hSw => ?_⟩) (by assumption) ?_
      · clear hHeld
        clear hSw
        go_simp
      try simp only [Act.put, List.setIfInBounds_toArray, List.set_cons_zero, List.set_cons_succ]
      refine wpAnyH_take (i := 4) (oi := { dst := some 50, op := Op.indexAddr 42 (Operand.tmp 49) (Operand.const (Value.int IntKind.i64 2)), type := 0, pos := "route.go:119", after := #[{ on := 3, ground := Ground.data }], guard := none }) (v := .pointer (some ⟨g, 2, none⟩)) rfl (by kernel_rfl) (by kernel_rfl) (by kernel_rfl) (fun _ _ _ h => h) (Or.inl ⟨by rfl, fun wS hSw => ?_⟩) (by assumption) ?_
      · clear hHeld
        clear hSw
        go_simp
      try simp only [Act.put, List.setIfInBounds_toArray, List.set_cons_zero, List.set_cons_succ]
      refine wpAnyH_take (i := 5) (oi := { dst := some 51, op := Op.load 9 (Operand.tmp 50), type := 9, pos := "route.go:119", after := #[{ on := 4, ground := Ground.data }], guard := none }) (v := .string ⟨b.toArray⟩) rfl (by kernel_rfl) (by kernel_rfl) (by kernel_rfl) (fun _ _ _ h => h) (Or.inl ⟨by rfl, fun wS hSw => ?_⟩) (by assumption) ?_
      · clear hHeld
        obtain ⟨y1, y2, y3⟩ := hSw
        go_simp
      try simp only [Act.put, List.setIfInBounds_toArray, List.set_cons_zero, List.set_cons_succ]
      refine wpAnyH_take (i := 6) (oi := { dst := some 52, op := Op.move (Operand.tmp 4), type := 42, pos := "route.go:119", after := #[], guard := none }) (v := .slice (some ⟨g, 0, none⟩) 4 cp) rfl (by kernel_rfl) (by kernel_rfl) (by kernel_rfl) (fun _ _ _ h => h) (Or.inl ⟨by rfl, fun wS hSw => ?_⟩) (by assumption) ?_
      · clear hHeld
        clear hSw
        go_simp
      try simp only [Act.put, List.setIfInBounds_toArray, List.set_cons_zero, List.set_cons_succ]
      refine wpAnyH_take (i := 7) (oi := { dst := some 53, op := Op.indexAddr 42 (Operand.tmp 52) (Operand.const (Value.int IntKind.i64 3)), type := 0, pos := "route.go:119", after := #[{ on := 6, ground := Ground.data }], guard := none }) (v := .pointer (some ⟨g, 3, none⟩)) rfl (by kernel_rfl) (by kernel_rfl) (by kernel_rfl) (fun _ _ _ h => h) (Or.inl ⟨by rfl, fun wS hSw => ?_⟩) (by assumption) ?_
      · clear hHeld
        clear hSw
        go_simp
      try simp only [Act.put, List.setIfInBounds_toArray, List.set_cons_zero, List.set_cons_succ]
      refine wpAnyH_take (i := 8) (oi := { dst := some 54, op := Op.load 9 (Operand.tmp 53), type := 9, pos := "route.go:119", after := #[{ on := 7, ground := Ground.data }], guard := none }) (v := .string ⟨c.toArray⟩) rfl (by kernel_rfl) (by kernel_rfl) (by kernel_rfl) (fun _ _ _ h => h) (Or.inl ⟨by rfl, fun wS hSw => ?_⟩) (by assumption) ?_
      · clear hHeld
        obtain ⟨y1, y2, y3⟩ := hSw
        go_simp
      try simp only [Act.put, List.setIfInBounds_toArray, List.set_cons_zero, List.set_cons_succ]
      refine wpAnyH_ready (rs := [9]) (by kernel_rfl) (by simp) ?_
      refine AllReadyH.cons (o := { dst := some 55, op := Op.call { callee := Callee.value (Operand.func 21), args := #[Operand.const (Value.int IntKind.i64 3), Operand.tmp 48, Operand.tmp 51, Operand.tmp 54], argTypes := #[3, 9, 9, 9] }, type := 34, pos := "route.go:119", after := #[{ on := 2, ground := Ground.data }, { on := 5, ground := Ground.data }, { on := 8, ground := Ground.data }], guard := none }) rfl (fun K hK => ?_) AllReadyH.nil
      clear hHeld
      go_simp
      refine (HL1.out _ (HE.out _ (HB.out.drew))).mono ?_; rintro e w3 ⟨rfl, hb⟩
      have HB3 := hid (HB.out.drew.trans (hb.mono HB.out.size))
      have HZ3 := hid ((hb.block w.heap.size (Array.getElem?_eq_some_iff.1 HZ.out).1).trans HZ.out)
      have hs3 : (fun W : World => W.cell? ⟨g, 1, none⟩ = some (.string ⟨a.toArray⟩) ∧ W.cell? ⟨g, 2, none⟩ = some (.string ⟨b.toArray⟩) ∧ W.cell? ⟨g, 3, none⟩ = some (.string ⟨c.toArray⟩)) w3 := by
        refine ⟨?_, ?_, ?_⟩
        · rw [hb.cell (p := ⟨g, 1, none⟩) hg]; exact x1
        · rw [hb.cell (p := ⟨g, 2, none⟩) hg]; exact x2
        · rw [hb.cell (p := ⟨g, 3, none⟩) hg]; exact x3
      rw [ledT_parts]
      clear hb
      try go_wp2_with fail
      refine hK.out _ _ hs3 (fun hHeld => ?_)
      clear hK K
      try simp only [Act.put, List.setIfInBounds_toArray, List.set_cons_zero, List.set_cons_succ]
      refine wpAnyH_take (i := 10) (oi := { dst := some 56, op := Op.extract (Operand.tmp 55) 0, type := 28, pos := "route.go:119", after := #[{ on := 9, ground := Ground.data }], guard := none }) (v := .agg (ledC LV)) rfl (by kernel_rfl) (by kernel_rfl) (by kernel_rfl) (fun _ _ _ h => h) (Or.inl ⟨by rfl, fun wS hSw => ?_⟩) (by assumption) ?_
      · clear hHeld
        clear hSw
        go_simp
      try simp only [Act.put, List.setIfInBounds_toArray, List.set_cons_zero, List.set_cons_succ]
      refine wpAnyH_take (i := 11) (oi := { dst := some 57, op := Op.extract (Operand.tmp 55) 1, type := 4, pos := "route.go:119", after := #[{ on := 9, ground := Ground.data }], guard := none }) (v := .bool (ledB LV)) rfl (by kernel_rfl) (by kernel_rfl) (by kernel_rfl) (fun _ _ _ h => h) (Or.inl ⟨by rfl, fun wS hSw => ?_⟩) (by assumption) ?_
      · clear hHeld
        clear hSw
        go_simp
      try simp only [Act.put, List.setIfInBounds_toArray, List.set_cons_zero, List.set_cons_succ]
      refine wpAnyH_ready (rs := [12]) (by kernel_rfl) (by simp) ?_
      refine AllReadyH.cons (o := { dst := none, op := Op.store 28 (Operand.tmp 2) (Operand.tmp 56), type := 0, pos := "route.go:119", after := #[{ on := 10, ground := Ground.data }, { on := 9, ground := Ground.chain }, { on := 0, ground := Ground.phase }, { on := 1, ground := Ground.phase }, { on := 2, ground := Ground.phase }, { on := 3, ground := Ground.phase }, { on := 4, ground := Ground.phase }, { on := 5, ground := Ground.phase }, { on := 6, ground := Ground.phase }, { on := 7, ground := Ground.phase }, { on := 8, ground := Ground.phase }, { on := 9, ground := Ground.phase }, { on := 10, ground := Ground.phase }, { on := 11, ground := Ground.phase }], guard := none }) rfl (fun K hK => ?_) AllReadyH.nil
      refine wp_store_row 28 _ _ rfl w.heap.size (ledC LV) rfl rfl 28 _ HZ3.out (by rw [ledC_size]; show _ = some 4; kernel_rfl) (by rw [ledC_size]; rfl) (ledC_one _) ?_
      have hs4 : (fun W : World => W.cell? ⟨g, 1, none⟩ = some (.string ⟨a.toArray⟩) ∧ W.cell? ⟨g, 2, none⟩ = some (.string ⟨b.toArray⟩) ∧ W.cell? ⟨g, 3, none⟩ = some (.string ⟨c.toArray⟩)) (w3.setRow w.heap.size (ledC LV)) := by
        obtain ⟨z1, z2, z3⟩ := hs3
        refine ⟨?_, ?_, ?_⟩
        · exact (World.cell?_of_block (w := w3) (a := ⟨g, 1, none⟩) (setRow_other w3 w.heap.size g _ hgw)).trans z1
        · exact (World.cell?_of_block (w := w3) (a := ⟨g, 2, none⟩) (setRow_other w3 w.heap.size g _ hgw)).trans z2
        · exact (World.cell?_of_block (w := w3) (a := ⟨g, 3, none⟩) (setRow_other w3 w.heap.size g _ hgw)).trans z3
      refine hK.out _ _ hs4 (fun hHeld => ?_)
      clear hK K
      try simp only [Act.put]
      refine wpAnyH_take (i := 13) (oi := { dst := some 3, op := Op.assign (Operand.tmp 57), type := 4, pos := "route.go:119", after := #[{ on := 11, ground := Ground.data }, { on := 12, ground := Ground.chain }, { on := 0, ground := Ground.phase }, { on := 1, ground := Ground.phase }, { on := 2, ground := Ground.phase }, { on := 3, ground := Ground.phase }, { on := 4, ground := Ground.phase }, { on := 5, ground := Ground.phase }, { on := 6, ground := Ground.phase }, { on := 7, ground := Ground.phase }, { on := 8, ground := Ground.phase }, { on := 9, ground := Ground.phase }, { on := 10, ground := Ground.phase }, { on := 11, ground := Ground.phase }, { on := 12, ground := Ground.phase }], guard := none }) (v := .bool (ledB LV)) rfl (by kernel_rfl) (by kernel_rfl) (by kernel_rfl) (fun _ _ _ h => h) (Or.inl ⟨by rfl, fun wS hSw => ?_⟩) (by assumption) ?_
      · clear hHeld
        clear hSw
        go_simp
      try simp only [Act.put, List.setIfInBounds_toArray, List.set_cons_zero, List.set_cons_succ]
      clear hHeld
      refine wpAnyH_done (by kernel_rfl) ?_ _
      refine NoPanic.normal ?_
      go_wp2_with fail
      refine bodyPost_ret (v := .tuple #[.agg (ledC LV), .bool (ledB LV)]) (ret_led2 rfl (ledC LV) (ledC_size _) rfl rfl (setRow_heap w3 _ _ _ _ _ HZ3.out)) rfl ?_
      rw [HV.out]
      exact ⟨by rw [ledT_parts], below_setRow HB3.out (Nat.le_refl _) _⟩
    · have hxe : (x == [65, 83, 75]) = false := beq_eq_false_iff_ne.2 hx
      have HV : Hid (readV l = none) := by have h := HR3.out; rwa [if_neg hx] at h
      have iD := infoDec
      have zD : (#[.int .i64 0, .int .i64 0, .int .i64 0, .int .i64 0] : Array Value).size = (#[.int .i64 0, .int .i64 0, .int .i64 0, .int .i64 0] : Array Value).size := rfl
      generalize readV l = RV at *
      
      go_wp2_with (refine wpList_store_row rfl 28 _ _ rfl w.heap.size #[.int .i64 0, .int .i64 0, .int .i64 0, .int .i64 0] rfl rfl 28 _ HZ.out (iD ⟨0, 0, 0, 0⟩) rfl (by simp [Value.oneCell']) ?_)
      refine bodyPost_ret (v := .tuple #[.agg #[.int .i64 0, .int .i64 0, .int .i64 0, .int .i64 0], .bool false]) (ret_dec2 rfl ⟨0, 0, 0, 0⟩ rfl rfl (setRow_heap w2 _ _ _ _ _ HZ.out)) rfl ?_
      exact led_none HV.out (below_setRow HB.out (Nat.le_refl _) _)
  have n3 : ((S.length : Int) == 3) = false := beq_eq_false_iff_ne.2 (by omega)
  have n4 : ((S.length : Int) == 4) = false := beq_eq_false_iff_ne.2 (by omega)
  have HNo : Hid (readV l = none) := by
    have hq : (pcs l).length ≠ 3 ∧ (pcs l).length ≠ 4 := by
      by_cases e : S.length < 5
      · rw [HF.out e]; exact ⟨m3, m4⟩
      · have := HMy.out (by omega); omega
    exact readV_none H456.out.1 H456.out.2.1 H456.out.2.2 hq.1 hq.2
  clear m3 m4 HF HMy H456 hcl hle HLl
  have HV : Hid (readV l = none) := HNo.out
  have iD := infoDec
  have zD : (#[.int .i64 0, .int .i64 0, .int .i64 0, .int .i64 0] : Array Value).size = (#[.int .i64 0, .int .i64 0, .int .i64 0, .int .i64 0] : Array Value).size := rfl
  generalize readV l = RV at *
  
  go_wp2_with (refine wpList_store_row rfl 28 _ _ rfl w.heap.size #[.int .i64 0, .int .i64 0, .int .i64 0, .int .i64 0] rfl rfl 28 _ HZ.out (iD ⟨0, 0, 0, 0⟩) rfl (by simp [Value.oneCell']) ?_)
  refine bodyPost_ret (v := .tuple #[.agg #[.int .i64 0, .int .i64 0, .int .i64 0, .int .i64 0], .bool false]) (ret_dec2 rfl ⟨0, 0, 0, 0⟩ rfl rfl (setRow_heap w2 _ _ _ _ _ HZ.out)) rfl ?_
  exact led_none HV.out (below_setRow HB.out (Nat.le_refl _) _)

end Go.Proofs.YtpmpndfinghlkaaDoor
