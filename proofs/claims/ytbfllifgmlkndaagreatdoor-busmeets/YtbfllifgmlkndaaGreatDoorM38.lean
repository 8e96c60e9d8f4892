/- BuRef3, BpGo, BpTell, VpN. -/
import Derived.Test.YtbfllifgmlkndaaGreatDoorM33
import Derived.Test.YtbfllifgmlkndaaGreatDoorM37
import Derived.Test.YtbfllifgmlkndaaGreatDoorM35
import Derived.Laws.Tables
import Derived.Test.YtbfllifgmlkndaaGreatDoorM36
import Derived.Test.YtbfllifgmlkndaaGreatDoorM29
namespace Go.Proofs.YtbfllifgmlkndaaGreatDoor
open Go.RowKit
open Slot

def tellB (v : Vw) (t : Int) : Bool := decide (0 ≤ t) && decide (t ≤ 63) && decide (t ≠ v.self)
def tellE (v : Vw) (t : Int) : Int := if tellB v t = true then 0 else 150
noncomputable def tellO (v : Vw) (k t : Int) : List (Int × Bs) := if tellB v t = true then outs t [tellV v k] else []
theorem pks_one (w : World) (p : Pk) : Pks (w.alloc (.cells (pkCells p) 53)) (some ⟨w.heap.size, 0, none⟩) [p] := fun _ =>
  ⟨w.heap.size, 0, rfl, by simp, fun j hj i v hv => by
    obtain rfl : j = 0 := by simpa using hj
    rw [Nat.zero_mul, Nat.zero_add, cell_of_row _ _ _ _ _ _ (heap_alloc_new w _)]
    rwa [Array.getElem?_toList] at hv⟩
theorem row_range {w : World} {b : Nat} {C : Array Value} {t : TypeId} (h : w.heap[b]? = some (.cells C t (0, 0))) : w.rangeAt b 0 C.toList := fun j u hu => by
  rw [Nat.zero_add, cell_of_row _ _ _ _ _ _ h]
  rwa [Array.getElem?_toList] at hu
end Go.Proofs.YtbfllifgmlkndaaGreatDoor

namespace Go.Proofs.YtbfllifgmlkndaaGreatDoor
open Go.RowKit
open Slot

def BLayP (B b vb : Nat) (F : Nat → Prop) (v : Vw) (O : List (Int × Bs)) (w : World) (e : Ending) (w' : World) : Prop := (∃ x, e = .returned x) ∧ ∃ F', BB B w' F' b vb v O ∧ Kp F F' w w'
/-- goOut, on its way -/
structure Go1 (B b vb : Nat) (F : Nat → Prop) (v : Vw) (O : List (Int × Bs)) (a : Option Addr) (L : List Pk) (w wr : World) : Prop where
  bus : ∃ F', BB B wr F' b vb v O ∧ Kp F F' w wr
  pk : Pks wr a L
  env : Env wr
theorem Go1.below {B b vb : Nat} {F : Nat → Prop} {v : Vw} {O : List (Int × Bs)} {a : Option Addr} {L : List Pk} {w wr w' : World} (h : Go1 B b vb F v O a L w wr) (hb : Below wr.heap.size wr w') (ha : ∀ x, a = some x → x.block < w.heap.size) : Go1 B b vb F v O a L w w' := by
  obtain ⟨F', h1, h2⟩ := h.bus
  exact ⟨⟨F', h1.call hb, h2.trans (Kp.of_below hb (Nat.le_refl _))⟩, h.pk.below hb (fun x e => Nat.lt_of_lt_of_le (ha x e) h2.like.size), h.env.below hb h.env.room⟩
theorem Go1.step {B b vb : Nat} {F F2 : Nat → Prop} {v : Vw} {O' : List (Int × Bs)} {a : Option Addr} {L : List Pk} {w wr w' : World} (h2 : Kp F F2 w wr) (hpk : Pks wr a L) (hE : Env wr) (h7 : ∀ k, F2 k → 7 ≤ k) (ha : ∀ x, a = some x → x.block < w.heap.size ∧ ¬ F x.block) (h : ∃ F', BB B w' F' b vb v O' ∧ Kp F2 F' wr w') : Go1 B b vb F v O' a L w w' := by
  obtain ⟨F', k1, k2⟩ := h
  refine ⟨⟨F', k1, h2.trans k2⟩, hpk.kp k2 (fun x e c => ?_), k2.env hE h7⟩
  obtain ⟨h3, h4⟩ := ha x e
  rcases h2.foot _ c with c | c
  · exact h4 c
  · omega
set_option maxHeartbeats 4000000 in
set_option maxRecDepth 100000 in
theorem goout_any (B b vb : Nat) (F : Nat → Prop) (v : Vw) (O : List (Int × Bs)) (t : Int) (a : Option Addr) (L : List Pk) (n c : Nat) (w : World) (hn : L.length = n) (hL : Pks w a L) (ha : ∀ x, a = some x → x.block < w.heap.size ∧ ¬ F x.block) (hB : BB B w F b vb v O) (hE : Env w) (h7 : 7 ≤ B) (hO : O.length + n ≤ 1000000) :
    Calls Tryz.prog 41 #[.func (.func 43) #[.agg #[.pointer (some ⟨b, 0, none⟩), .int .i64 t]] #[], .slice a n c] w (BLayP B b vb F v (O ++ outs t L) w) := by
  have HN := hid hn
  have HA := hid ha
  have H7 := hid h7
  have HO := hid hO
  have HG0 : Hid (Go1 B b vb F v O a L w w) := ⟨⟨F, hB, Kp.refl _ _⟩, hL, hE⟩
  clear hn hL ha hB hE h7
  have hnz : (n : Int) ≤ 1000000 := by omega
  clear hO
  go_enter Tryz.func41, Tryz.ntmps41
  go_wp2_with fail
  go_loopw [8] (fun c8 wr => ∃ k : Nat, k ≤ n ∧ c8 = .int .i64 k ∧ Hid (Go1 B b vb F v (O ++ outs t (L.take k)) a L w wr)) (fun c8 _ => n - (intOf c8).toNat)
  case atStart => exact ⟨0, by omega, rfl, by have := HG0.out; unfold outs; rw [List.take_zero, List.map_nil, List.append_nil]; exact this⟩
  case round =>
    clear HG0
    obtain ⟨k, hk, rfl, HG⟩ := hrel
    by_cases hlt : k < n
    · have hkz : (k : Int) < (n : Int) := by omega
      have hkL : k < L.length := by have := HN.out; omega
      obtain ⟨pb, po, rfl, hpl, h1⟩ := HG.out.pk (fun e => by rw [e] at hkL; exact absurd hkL (Nat.not_lt_zero _))
      obtain ⟨p, hp⟩ : ∃ p, L[k] = p := ⟨_, rfl⟩
      have g0 := h1 k hkL
      rw [hp] at g0
      have HRg := hid g0
      have iPl := infoPl p
      have iP := infoPk p
      have oP := onePk p
      have zP : Tryz.zeroCells53.size = (pkCells p).size := by rw [pkCells_size]; exact zsize
      have hta : (pkCells p).toList.toArray = pkCells p := Array.toArray_toList
      have HTk := hid (outs_take t L hkL)
      rw [hp] at HTk
      have HZ := hid (heap_alloc_new wr (.cells Tryz.zeroCells53 53))
      have hb2 := below_setRow (g := wr.heap.size) (below_alloc wr (.cells Tryz.zeroCells53 53)) (Nat.le_refl _) (pkCells p)
      have HP2 := hid (setRow_heap (wr.alloc (.cells Tryz.zeroCells53 53)) wr.heap.size _ (pkCells p) _ _ HZ.out)
      have HG2 := hid (HG.out.below hb2 (fun x e => (HA.out x e).1))
      have HLy : Hid (∀ W (F2 : Nat → Prop), BB B W F2 b vb v (O ++ outs t (L.take k)) → Env W → Calls Tryz.prog 43 #[.agg #[.pointer (some ⟨b, 0, none⟩), .int .i64 t], .agg (pkCells p)] W fun e w' => (∃ x, e = .returned x) ∧ ∃ F', BB B w' F' b vb v (O ++ outs t (L.take k) ++ [(t, encS p)]) ∧ Kp F2 F' W w') := fun W F2 h hE => lay_any B b vb F2 v _ t p W h hE (by
        have := HO.out
        have := HN.out
        simp [outs]
        omega)
      obtain ⟨PC, hPC⟩ : ∃ C, pkCells p = C := ⟨_, rfl⟩
      rw [hPC] at HRg iPl iP oP zP hta hb2 HP2 HG2 HLy
      clear h1 g0 hPC hp hkL hb2 HG
      go_upto_region 3 with (first | (refine wpList_load_mid rfl 53 _ rfl pb (po + k * 261) rfl _ _ HRg.out Tryz.underlying53 rfl iPl ?_; rw [hta]) | (refine wpList_store_row rfl 53 _ _ rfl wr.heap.size PC rfl rfl 53 _ HZ.out iP zP oP ?_))
      clear HZ HRg iPl zP oP hta
      generalize (wr.alloc (.cells Tryz.zeroCells53 53)).setRow wr.heap.size PC = w2 at *
      generalize wr.heap.size = xb at *
      obtain ⟨F2, hb2, hk2⟩ := HG2.out.bus
      have HLz := hid (HLy.out w2 F2 hb2 HG2.out.env)
      have HK2 := hid hk2
      have H72 : Hid (∀ k, F2 k → 7 ≤ k) := fun k hk => Nat.le_trans H7.out (hb2.low k hk)
      clear hb2 hk2 HLy
      go_wp2_with (refine wpList_load_row rfl 53 _ rfl xb rfl 53 _ (0, 0) _ HP2.out Tryz.underlying53 rfl iP ?_)
      refine HLz.out.mono ?_; rintro r w3 ⟨⟨x, rfl⟩, h3⟩
      have HG3 : Hid (Go1 B b vb F v (O ++ outs t (L.take (k + 1))) (some ⟨pb, po, none⟩) L w w3) := by
        have := Go1.step HK2.out HG2.out.pk HG2.out.env H72.out HA.out h3
        rw [List.append_assoc, ← HTk.out] at this
        exact this
      clear h3 HLz HK2 HG2
      go_wp2_with fail
      go_roundw
      case rel => exact ⟨k + 1, by omega, by go_num, HG3.out⟩
      case measure => simp [intOf]; omega
    · obtain rfl : k = n := by omega
      have hall : L.take k = L := by rw [← HN.out, List.take_length]
      rw [hall] at HG
      clear hall
      go_wp2_with fail
      go_end0
      exact ⟨⟨_, rfl⟩, HG.out.bus⟩

end Go.Proofs.YtbfllifgmlkndaaGreatDoor

namespace Go.Proofs.YtbfllifgmlkndaaGreatDoor
open Go.RowKit
open Slot

/-- what a call leaves that tells a value -/
def BusP (B b vb : Nat) (F : Nat → Prop) (v : Vw) (O : List (Int × Bs)) (x : Value) (w : World) (e : Ending) (w' : World) : Prop := e = .returned x ∧ ∃ F', BB B w' F' b vb v O ∧ Kp F F' w w'
set_option maxHeartbeats 4000000 in
set_option maxRecDepth 100000 in
theorem utell_any (B b vb : Nat) (F : Nat → Prop) (v : Vw) (O : List (Int × Bs)) (k t : Int) (w : World) (hB : BB B w F b vb v O) (hE : Env w) (h7 : 7 ≤ B) (hs : v.self < 64) (hO : O.length ≤ 800000) :
    Calls Tryz.prog 49 #[.pointer (some ⟨b, 0, none⟩), .int .i64 k, .int .i64 t] w (BusP B b vb F v (O ++ tellO v k t) (.int .i64 (tellE v t)) w) := by
  obtain ⟨c0, hV, hFv, -⟩ := hB.view
  have HSf := hid (self_any vb v w hV)
  have HV := hid hV
  have HB := hid hB
  have HE := hid hE
  have HLt := hid hB.lt
  have HO := hid hO
  have H7 := hid h7
  have HTl := hid (fun W h => tell_any vb k v W h hs)
  have HRd := hid (fun W => road_any b t W)
  have HT : Hid (tellB v t = (decide (0 ≤ t) && decide (t ≤ 63) && decide (t ≠ (v.self : Int))) ∧ tellE v t = (if tellB v t = true then 0 else 150) ∧ tellO v k t = if tellB v t = true then outs t [tellV v k] else []) := ⟨rfl, rfl, rfl⟩
  have HNo : Hid (tellB v t = false → BusP B b vb F v (O ++ tellO v k t) (.int .i64 (tellE v t)) w (.returned (.int .i64 150)) w) := fun h => by
    rw [HT.out.2.1, HT.out.2.2, h, if_neg (by decide), if_neg (by decide), List.append_nil]
    exact ⟨rfl, F, HB.out, Kp.refl _ _⟩
  have hPs : (pkCells (tellV v k)).size = 261 := pkCells_size _
  have HOne := hid (fun W => pks_one W (tellV v k))
  obtain ⟨TP, hTP⟩ : ∃ p, tellV v k = p := ⟨_, rfl⟩
  rw [hTP] at HTl HT hPs HOne
  obtain ⟨PC, hPC⟩ : ∃ C, pkCells TP = C := ⟨_, rfl⟩
  rw [hPC] at HTl hPs HOne
  obtain ⟨me, hme⟩ : ∃ m, v.self = m := ⟨_, rfl⟩
  rw [hme] at HSf HT
  clear hV hB hE hs hO h7 hTP hPC hme
  go_enter Tryz.func49, Tryz.ntmps49
  by_cases h1 : t < 0
  · have HE := hid (HNo.out (by rw [HT.out.1, decide_eq_false (by omega)]; rfl))
    go_wp2_with fail
    go_ret
    exact HE.out
  by_cases h2 : 64 ≤ t
  · have HE := hid (HNo.out (by rw [HT.out.1, decide_eq_false (show ¬ t ≤ 63 by omega)]; simp))
    go_wp2_with fail
    go_ret
    exact HE.out
  by_cases h3 : t = (me : Int)
  · have HE := hid (HNo.out (by rw [HT.out.1, decide_eq_false (show ¬ t ≠ (me : Int) from fun c => c h3)]; simp))
    subst h3
    go_wp2_with fail
    refine HSf.out.mono ?_; rintro r w2 ⟨rfl, rfl⟩
    go_wp2_with fail
    go_ret
    exact HE.out
  have HYes : Hid (tellB v t = true) := by show _ = _; rw [HT.out.1, decide_eq_true (by omega), decide_eq_true (by omega), decide_eq_true h3]; rfl
  have h3b : (t == (me : Int)) = false := beq_eq_false_iff_ne.2 h3
  clear HNo
  go_wp2_with fail
  refine HSf.out.mono ?_; rintro r w2 ⟨rfl, hw2⟩
  obtain rfl : w = w2 := hw2.symm
  go_upto_region 3 with fail
  refine wp_region_noPanic ?_
  clear h1 h2 h3 h3b HSf
  refine wp_region_held_drew (S := fun W => W.cell? ⟨b, 0, none⟩ = some (.pointer (some ⟨vb, 0, none⟩))) (by kernel_rfl) c0 (fun hHeld => ?_)
  refine wpAnyH_take (i := 0) (oi := { dst := some 22, op := Op.move (Operand.tmp 0), type := 28, pos := "bus.go:64", after := #[], guard := none }) (v := .pointer (some ⟨b, 0, none⟩)) rfl (by kernel_rfl) (by kernel_rfl) (by kernel_rfl) (fun _ _ _ h => h) (Or.inl ⟨by rfl, fun wS hSw => ?_⟩) (by assumption) ?_
  · clear hHeld
    clear hSw
    go_simp
  try simp only [Act.put, List.setIfInBounds_toArray, List.set_cons_zero, List.set_cons_succ]
  refine wpAnyH_take (i := 1) (oi := { dst := some 23, op := Op.move (Operand.tmp 2), type := 3, pos := "bus.go:64", after := #[], guard := none }) (v := .int .i64 t) rfl (by kernel_rfl) (by kernel_rfl) (by kernel_rfl) (fun _ _ _ h => h) (Or.inl ⟨by rfl, fun wS hSw => ?_⟩) (by assumption) ?_
  · clear hHeld
    clear hSw
    go_simp
  try simp only [Act.put, List.setIfInBounds_toArray, List.set_cons_zero, List.set_cons_succ]
  refine wpAnyH_take (i := 4) (oi := { dst := some 26, op := Op.move (Operand.tmp 0), type := 28, pos := "bus.go:64", after := #[], guard := none }) (v := .pointer (some ⟨b, 0, none⟩)) rfl (by kernel_rfl) (by kernel_rfl) (by kernel_rfl) (fun _ _ _ h => h) (Or.inl ⟨by rfl, fun wS hSw => ?_⟩) (by assumption) ?_
  · clear hHeld
    clear hSw
    go_simp
  try simp only [Act.put, List.setIfInBounds_toArray, List.set_cons_zero, List.set_cons_succ]
  refine wpAnyH_take (i := 5) (oi := { dst := some 27, op := Op.nilCheck (Operand.tmp 26), type := 0, pos := "bus.go:64", after := #[{ on := 4, ground := Ground.data }], guard := none }) (v := .pointer (some ⟨b, 0, none⟩)) rfl (by kernel_rfl) (by kernel_rfl) (by kernel_rfl) (fun _ _ _ h => h) (Or.inl ⟨by rfl, fun wS hSw => ?_⟩) (by assumption) ?_
  · clear hHeld
    clear hSw
    go_simp
  try simp only [Act.put, List.setIfInBounds_toArray, List.set_cons_zero, List.set_cons_succ]
  refine wpAnyH_take (i := 6) (oi := { dst := some 28, op := Op.fieldAddr 77 (Operand.tmp 27) 0, type := 0, pos := "bus.go:64", after := #[{ on := 5, ground := Ground.data }], guard := none }) (v := .pointer (some ⟨b, 0, none⟩)) rfl (by kernel_rfl) (by kernel_rfl) (by kernel_rfl) (fun _ _ _ h => h) (Or.inl ⟨by rfl, fun wS hSw => ?_⟩) (by assumption) ?_
  · clear hHeld
    clear hSw
    go_simp
  try simp only [Act.put, List.setIfInBounds_toArray, List.set_cons_zero, List.set_cons_succ]
  refine wpAnyH_take (i := 7) (oi := { dst := some 29, op := Op.load 50 (Operand.tmp 28), type := 50, pos := "bus.go:64", after := #[{ on := 6, ground := Ground.data }], guard := none }) (v := .pointer (some ⟨vb, 0, none⟩)) rfl (by kernel_rfl) (by kernel_rfl) (by kernel_rfl) (fun _ _ _ h => h) (Or.inl ⟨by rfl, fun wS hSw => ?_⟩) (by assumption) ?_
  · clear hHeld
    have s0 := hSw
    go_simp
  try simp only [Act.put, List.setIfInBounds_toArray, List.set_cons_zero, List.set_cons_succ]
  refine wpAnyH_take (i := 8) (oi := { dst := some 30, op := Op.move (Operand.tmp 1), type := 3, pos := "bus.go:64", after := #[], guard := none }) (v := .int .i64 k) rfl (by kernel_rfl) (by kernel_rfl) (by kernel_rfl) (fun _ _ _ h => h) (Or.inl ⟨by rfl, fun wS hSw => ?_⟩) (by assumption) ?_
  · clear hHeld
    clear hSw
    go_simp
  try simp only [Act.put, List.setIfInBounds_toArray, List.set_cons_zero, List.set_cons_succ]
  refine wpAnyH_ready (rs := [2]) (by kernel_rfl) (by simp) ?_
  refine AllReadyH.cons (o := { dst := some 24, op := Op.call { callee := Callee.value (Operand.func 42), args := #[Operand.tmp 22, Operand.tmp 23], argTypes := #[28, 3] }, type := 101, pos := "bus.go:64", after := #[{ on := 0, ground := Ground.data }, { on := 1, ground := Ground.data }], guard := none }) rfl (fun K hK => ?_) AllReadyH.nil
  clear hHeld
  go_simp
  refine (HRd.out _).mono ?_; rintro e w3 ⟨rfl, hb3⟩
  have HB3 := hid (HB.out.drew.call hb3)
  have HW3 : Hid (Below w.heap.size w w3) := (Below.refl _ _).drew.trans hb3
  clear hb3
  have c3 : w3.cell? ⟨b, 0, none⟩ = some (.pointer (some ⟨vb, 0, none⟩)) := (HW3.out.cell (p := ⟨b, 0, none⟩) (HLt.out b HB.out.own)).trans c0
  have HC3 := hid c3
  clear c3
  go_wp2_with fail
  refine hK.out _ _ HC3.out (fun hHeld => ?_)
  clear hK K
  try simp only [Act.put, List.setIfInBounds_toArray, List.set_cons_zero, List.set_cons_succ]
  refine wpAnyH_take (i := 3) (oi := { dst := some 25, op := Op.makeFunc (Fn.func 43) #[Operand.tmp 24] #[], type := 99, pos := "bus.go:64", after := #[{ on := 2, ground := Ground.data }], guard := none }) (v := .func (.func 43) #[.agg #[.pointer (some ⟨b, 0, none⟩), .int .i64 t]] #[]) rfl (by kernel_rfl) (by kernel_rfl) (by kernel_rfl) (fun _ _ _ h => h) (Or.inl ⟨by rfl, fun wS hSw => ?_⟩) (by assumption) ?_
  · clear hHeld
    clear hSw
    go_simp
  try simp only [Act.put, List.setIfInBounds_toArray, List.set_cons_zero, List.set_cons_succ]
  refine wpAnyH_ready (rs := [9]) (by kernel_rfl) (by simp) ?_
  refine AllReadyH.cons (o := { dst := some 31, op := Op.call { callee := Callee.value (Operand.func 75), args := #[Operand.tmp 29, Operand.tmp 30], argTypes := #[50, 3] }, type := 53, pos := "bus.go:64", after := #[{ on := 7, ground := Ground.data }, { on := 8, ground := Ground.data }, { on := 2, ground := Ground.chain }], guard := none }) rfl (fun K hK => ?_) AllReadyH.nil
  clear hHeld
  have HV3 := hid (HV.out.below HW3.out (HLt.out vb hFv))
  go_simp
  refine (HTl.out _ HV3.out).mono ?_; rintro e w4 ⟨rfl, hb4⟩
  have HB4 := hid (HB3.out.call hb4)
  have HW4 := hid (HW3.out.trans (hb4.mono HW3.out.size))
  clear hb4
  have HC4 : Hid (w4.cell? ⟨b, 0, none⟩ = some (.pointer (some ⟨vb, 0, none⟩))) := (HW4.out.cell (p := ⟨b, 0, none⟩) (HLt.out b HB.out.own)).trans c0
  go_wp2_with fail
  refine hK.out _ _ HC4.out (fun hHeld => ?_)
  clear hK K HB3 HV3 HW3 HC3
  try simp only [Act.put, List.setIfInBounds_toArray, List.set_cons_zero, List.set_cons_succ]
  refine wpAnyH_ready (rs := [10]) (by kernel_rfl) (by simp) ?_
  refine AllReadyH.cons (o := { dst := some 32, op := Op.buildSlice 103 1 #[(0, Operand.tmp 31)], type := 103, pos := "bus.go:64", after := #[{ on := 9, ground := Ground.data }], guard := none }) rfl (fun K hK => ?_) AllReadyH.nil
  rw [if_pos (by rfl)]
  refine wp_bslice _ rfl PC rfl hPs ?_
  have hb5 := below_alloc w4 (.cells PC 53)
  have HB5 := hid (HB4.out.call hb5)
  have HW5 := hid (HW4.out.trans (hb5.mono HW4.out.size))
  have HC5 : Hid ((w4.alloc (.cells PC 53)).cell? ⟨b, 0, none⟩ = some (.pointer (some ⟨vb, 0, none⟩))) := (HW5.out.cell (p := ⟨b, 0, none⟩) (HLt.out b HB.out.own)).trans c0
  have HGo := hid (goout_any B b vb F v O t (some ⟨w4.heap.size, 0, none⟩) [TP] 1 1 (w4.alloc (.cells PC 53)) rfl (HOne.out w4) (fun x e => by
    cases e
    exact ⟨by simp, fun c => by have h1 : w4.heap.size < w.heap.size := HLt.out _ c; have h2 := HW4.out.size; omega⟩) HB5.out (HE.out.below HW5.out HE.out.room) H7.out (by have := HO.out; omega))
  clear hb5 HB4
  refine hK.out _ _ HC5.out (fun hHeld => ?_)
  clear hK K HC4
  try simp only [Act.put, List.setIfInBounds_toArray, List.set_cons_zero, List.set_cons_succ]
  refine wpAnyH_ready (rs := [11]) (by kernel_rfl) (by simp) ?_
  refine AllReadyH.cons (o := { dst := some 33, op := Op.call { callee := Callee.value (Operand.func 41), args := #[Operand.tmp 25, Operand.tmp 32], argTypes := #[99, 103] }, type := 0, pos := "bus.go:64", after := #[{ on := 3, ground := Ground.data }, { on := 10, ground := Ground.data }, { on := 9, ground := Ground.chain }], guard := none }) rfl (fun K hK => ?_) AllReadyH.nil
  clear hHeld
  go_simp
  refine HGo.out.mono ?_; rintro e w6 ⟨⟨x, rfl⟩, F6, hB6, hk6⟩
  have HB6 := hid hB6
  have HK6 : Hid (Kp F F6 w w6) := (Kp.of_below HW5.out (Nat.le_refl _)).trans hk6
  have HC6 := hid hB6.view.1
  clear hB6 hk6 HGo
  go_wp2_with fail
  refine hK.out _ _ ?_ (fun hHeld => ?_)
  · exact HC6.out
  clear hK K
  refine wpAnyH_done (by kernel_rfl) ?_ _
  refine NoPanic.normal ?_
  clear hHeld
  go_wp2_with fail
  go_ret
  rw [HT.out.2.1, HT.out.2.2, HYes.out, if_pos rfl, if_pos rfl]
  exact ⟨rfl, F6, HB6.out, HK6.out⟩

end Go.Proofs.YtbfllifgmlkndaaGreatDoor

namespace Go.Proofs.YtbfllifgmlkndaaGreatDoor
open Go.RowKit
open Slot

theorem wpList_built2 {P : Program} {ops : Array Oper} {rest : List Oper} {o : Oper} {a : Act} {w : World} {Q : Exit → Act → World → Prop} (hg : o.guard = none) (t : TypeId) (i j : Nat) (x y : Operand) (ho : o.op = .build t #[(i, x), (j, y)])
    (u v : Value) (hx : a.eval x = u) (hy : a.eval y = v) (C : Array Value) (hb : P.built t [(i, u), (j, v)] = some C) (h : wpList P ops Q rest (a.put o.dst (.agg C)) w) : wpList P ops Q (o :: rest) a w := by
  have e : (#[(i, x), (j, y)].map fun (i, x) => (i, a.eval x)).toList = [(i, u), (j, v)] := by simp [hx, hy]
  exact wpList_build hg t _ ho (by rw [e, hb]; rfl) (by rw [e, hb]; exact h)
theorem built_view {Z : Array Value} (hZ : Tryz.t109.zero = some (.agg Z)) (hs : Z.size = 16450) (s e : Int) : Tryz.prog.built 109 [(0, .int .i64 s), (3, .int .u64 e)] = some ((Z.setIfInBounds 0 (.int .i64 s)).setIfInBounds 16449 (.int .u64 e)) := by
  have hi : Tryz.prog.info? 109 = some Tryz.t109 := by kernel_rfl
  obtain ⟨fs, hu, hp⟩ : ∃ fs, Tryz.prog.underlying 109 = some (.struct fs) ∧ fs.toList.mapM (fun f => (Tryz.prog.info? f.type).map fun i => (f.offset, i.size)) = some [(0, 1), (1, 16384), (16385, 64), (16449, 1)] := ⟨_, Tryz.underlying109, by kernel_rfl⟩
  unfold Program.built
  rw [hi, hu]
  simp only [hZ, hp]
  show Instr.fill _ Z _ = _
  simp [Instr.fill, Value.cells, hs]
/-- a view under way: the first k slots are nobody's -/
def VN (w : World) (b self e k : Nat) : Prop := ∃ C : Array Value, w.heap[b]? = some (.cells C 109 (0, 0)) ∧ C.size = 16450 ∧ C[0]? = some (.int .i64 (self : Int)) ∧ (∀ s, s < k → C[1 + s]? = some (.int .i8 (-1))) ∧ (∀ n, n < 64 → C[16385 + n]? = some (.int .u64 0)) ∧ C[16449]? = some (.int .u64 (e : Int))
theorem VN.lt {w : World} {b self e k : Nat} (h : VN w b self e k) : b < w.heap.size := by
  obtain ⟨C, h1, _⟩ := h
  exact (Array.getElem?_eq_some_iff.1 h1).1
theorem VN.cell {w : World} {b self e k : Nat} (h : VN w b self e k) {s : Nat} (hs : s < 16384) : ∃ x, w.cell? ⟨b, 1 + s, none⟩ = some x := by
  obtain ⟨C, h1, h2, _⟩ := h
  refine ⟨C[1 + s]'(by omega), ?_⟩
  rw [cell_of_row w b _ _ _ _ h1, Array.getElem?_eq_getElem (by omega)]
theorem VN.frozen {w : World} {b self e k : Nat} (h : VN w b self e k) (j : Nat) : w.frozen? ⟨b, j, none⟩ = false := by
  obtain ⟨C, h1, _⟩ := h
  simp [World.frozen?, h1]
theorem VN.step {w : World} {b self e k : Nat} (h : VN w b self e k) (hk : k < 16384) : VN (w.setCell ⟨b, 1 + k, none⟩ (.int .i8 (-1))) b self e (k + 1) := by
  obtain ⟨C, h1, h2, h3, h4, h5, h6⟩ := h
  refine ⟨_, heap_setCell_same w b (1 + k) C _ _ h1, by rw [Array.size_setIfInBounds]; exact h2, set_ne (by omega) h3, fun t ht => ?_, fun m hm => set_ne (by omega) (h5 m hm), set_ne (by omega) h6⟩
  by_cases e : t = k
  · rw [e]; exact set_eq (by omega)
  · exact set_ne (by omega) (h4 t (by omega))
/-- a view of which nothing is known -/
def bareV (self e : Nat) : Vw := ⟨self, fun _ => 0, fun _ => 64, e⟩
theorem VN.done {w : World} {b self e : Nat} (h : VN w b self e 16384) : VB w b (bareV self e) := by
  obtain ⟨C, h1, h2, h3, h4, h5, h6⟩ := h
  exact ⟨C, h1, h2, h3, fun s hs => h4 s hs, fun n hn => h5 n hn, h6⟩
theorem new_end {w : World} {b self e : Nat} {S : Nat → Bool} (h : VB w b (bl3 (bareV self e) self e (slots S))) : VB w b (newV self S e) := by
  have := bl3_end (p := ⟨1, 0, 0, e, e, S⟩) h
  refine this.congr rfl (fun s _ => ?_) (fun n _ => rfl) rfl
  show (if S s then self else 64) = (if S s then (if (64 = 64 ∨ 64 = self ∨ 0 < e) then self else 64) else (if 64 = self then 64 else 64))
  cases S s
  · simp
  · simp
theorem vn_new {Z : Array Value} {w : World} {self e : Nat} (hs : Z.size = 16450) (hz : ∀ n, n < 65 → Z[16385 + n]? = some (.int .u64 0)) :
    VN (w.alloc (.cells ((Z.setIfInBounds 0 (.int .i64 (self : Int))).setIfInBounds 16449 (.int .u64 (e : Int))) 109)) w.heap.size self e 0 := by
  refine ⟨_, heap_alloc_new w _, by simp [hs], ?_, fun s h => absurd h (Nat.not_lt_zero s), fun n hn => ?_, ?_⟩
  · rw [Array.getElem?_setIfInBounds_ne (by decide)]
    exact Array.getElem?_setIfInBounds_self_of_lt (by rw [hs]; decide)
  · rw [Array.getElem?_setIfInBounds_ne (by omega), Array.getElem?_setIfInBounds_ne (by omega)]
    exact hz n (by omega)
  · exact Array.getElem?_setIfInBounds_self_of_lt (by rw [Array.size_setIfInBounds, hs]; decide)
def PNewP (self e : Nat) (S : Nat → Bool) (w : World) (r : Ending) (w' : World) : Prop := ∃ b, r = .returned (.tuple #[.pointer (some ⟨b, 0, none⟩), .int .i64 0]) ∧ VB w' b (newV self S e) ∧ w.heap.size ≤ b ∧ Below w.heap.size w w'
set_option maxHeartbeats 4000000 in
set_option maxRecDepth 100000 in
theorem pnew_yes (self e : Nat) (S : Nat → Bool) (w : World) (hs : self < 64) (he : e ≤ 4611686018427387904) : Calls Tryz.prog 24 #[.int .i64 (self : Int), .agg (cellsOf S), .int .u64 (e : Int)] w (PNewP self e S w) := by
  obtain ⟨Z0, hZ, hl, c, hc⟩ := zview
  obtain ⟨Z, z1, z2, z3, z4⟩ := zview_any
  have hz0 : (zeroValue 109).run Tryz.prog w = .ok (.agg Z0.toArray) w := by
    unfold zeroValue
    rw [Sem.run_bind, Tryz.typeInfo109]
    simp only [Result.andThen_ok, hZ]
    rfl
  have hZe : Z0.toArray = Z := by
    have := hz0.symm.trans (z4 w)
    simpa using this
  rw [hZe] at hZ
  have hbv := built_view hZ z1 (self : Int) (e : Int)
  have HVn := hid (fun W : World => vn_new (w := W) (self := self) (e := e) z1 z2)
  have HNd := hid (isnode_any (self : Int))
  have hnd : nodeB (self : Int) = true := decide_eq_true (by omega)
  rw [hnd] at HNd
  have hez : ¬ (4611686018427387904 : Int) < (e : Int) := by omega
  have HCs0 := hid (heap_alloc_new w (.cells (cellsOf S) 24))
  have HW0 := hid (below_alloc w (.cells (cellsOf S) 24))
  have HSz : Hid ((w.alloc (.cells (cellsOf S) 24)).heap.size = w.heap.size + 1) := by show _ = _; simp
  have HBl := hid (fun (b : Nat) (W : World) (h : VB W b (bareV self e)) => believe_any b self e (bareV self e) S W h hs (fun _ => Nat.le_refl _))
  have iC : (Tryz.prog.info? 24).map (·.size) = some (cellsOf S).size := infoBits S
  have HEnd := hid (fun (b : Nat) (W : World) => new_end (w := W) (b := b) (self := self) (e := e) (S := S))
  generalize hV : (Z.setIfInBounds 0 (.int .i64 (self : Int))).setIfInBounds 16449 (.int .u64 (e : Int)) = CV at hbv HVn
  generalize cellsOf S = CS at *
  have hsz : (self : Int) < 64 := by omega
  clear hz0 hZe hZ hl hc z1 z2 z3 z4 hV hs he hnd
  go_enter Tryz.func24, Tryz.ntmps24
  go_upto_region 1 with fail
  generalize w.alloc (.cells CS 24) = w1 at *
  go_wp2_with fail
  refine (HNd.out _).mono ?_; rintro r w2 ⟨rfl, rfl⟩
  go_wp2_with (refine wpList_built2 rfl 109 0 3 _ _ rfl (.int .i64 (self : Int)) (.int .u64 (e : Int)) rfl rfl CV hbv ?_)
  have HB3 := hid (below_alloc w2 (.cells CV 109))
  have HV3 := hid (HVn.out w2)
  have HCs3 := hid ((HB3.out.block _ (by have := HSz.out; omega)).trans HCs0.out)
  have HW3 := hid (HW0.out.trans (HB3.out.mono HW0.out.size))
  have HBd : Hid (w.heap.size ≤ w2.heap.size) := HW0.out.size
  have HBn : Hid (w.heap.size < w2.heap.size) := by have := HSz.out; show _ < _; omega
  clear HB3 HCs0 HW0 HVn hbv HSz
  generalize w2.alloc (.cells CV 109) = w3 at *
  generalize w2.heap.size = b at *
  go_wp2_with fail
  go_loopw [21] (fun c wr => ∃ k : Nat, c = .int .i64 (k : Int) ∧ k ≤ 16384 ∧ Hid (VN wr b self e k) ∧ Hid (wr.heap[w.heap.size]? = some (.cells CS 24 (0, 0))) ∧ Hid (Below w.heap.size w wr)) (fun c _ => 16384 - (intOf c).toNat)
  case atStart => exact ⟨0, rfl, Nat.zero_le _, HV3.out, HCs3.out, HW3.out⟩
  case round =>
    obtain ⟨k, rfl, hk, HVk, HCk, HWk⟩ := hrel
    by_cases hlt : k < 16384
    · have hkz : (k : Int) < 16384 := by omega
      obtain ⟨x, cO⟩ := HVk.out.cell hlt
      have fO := HVk.out.frozen (1 + k)
      have HV4 := hid (HVk.out.step hlt)
      have HC4 : Hid ((wr.setCell ⟨b, 1 + k, none⟩ (.int .i8 (-1))).heap[w.heap.size]? = some (.cells CS 24 (0, 0))) := (Below.heap_setCell _ _ _ _ (by show w.heap.size ≠ b; have := HBn.out; omega)).trans HCk.out
      have HW4 := hid (HWk.out.setCell (p := ⟨b, 1 + k, none⟩) (by show w.heap.size ≤ b; exact HBd.out) (.int .i8 (-1)))
      go_wp2_with fail
      go_roundw
      case rel => exact ⟨k + 1, by go_num, by omega, HV4.out, HC4.out, HW4.out⟩
      case measure => simp [intOf]; omega
    · obtain rfl : k = 16384 := by omega
      have HV5 := hid HVk.out.done
      go_wp2_with (refine wpList_load_row rfl 24 _ rfl w.heap.size rfl 24 _ (0, 0) _ HCk.out Tryz.underlying24 rfl iC (Hid.out ?_))
      refine hid ?_
      go_wp2_with fail
      refine (HBl.out b _ HV5.out).mono ?_; rintro r w6 ⟨⟨y, rfl⟩, hv, ho⟩
      have HV6 := hid (HEnd.out b _ hv)
      have HW6 := hid (HWk.out.trans (ho.below HBd.out HWk.out.size))
      clear hv ho
      go_wp2_with fail
      go_ret2
      exact ⟨b, rfl, HV6.out, HBd.out, HW6.out⟩

end Go.Proofs.YtbfllifgmlkndaaGreatDoor
