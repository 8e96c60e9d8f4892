/- stands: links tell what the document says. -/
import Derived.Test.YtjcfbnhmljlkpaaLkDo2
namespace Go.Proofs.Ytjcfbnhmljlkpaa
open Go.RowKit

set_option maxHeartbeats 4000000 in
set_option maxRecDepth 100000 in
/-- stands -/
theorem stands_any {LB : World → Nat → (Nat → Prop) → (Nat → Prop) → List Wy → Prop} (C : LinksIs LB) (b : Nat) (F Rr G P : Nat → Prop) (a : Option Addr) (R : List Wm) (c : Nat) (w : World) (hLB : LB w b F Rr (ways R)) (hR : Rdw G P w a R) (hl : R.length ≤ 50000) :
    Calls Try.prog 12 #[ptr b, .slice a R.length c] w fun e w' => e = .returned (.bool true) ∧ Hid (Below w.heap.size w w') := by
  have hlw : (ways R).length ≤ 50000 := by rw [List.length_map]; exact hl
  have HPr := hid (C.pairs hLB (by omega))
  have HLB := hid hLB
  have HLt := hid (C.lt hLB)
  have HR := hid hR
  have HLW := hid hlw
  have HL := hid hl
  obtain ⟨n, hn⟩ : ∃ n, R.length = n := ⟨_, rfl⟩
  have HN := hid hn
  rw [hn]
  have hpl : (pairsV (ways R)).length ≤ 50000 := Nat.le_trans (pairsV_len _) hlw
  obtain ⟨l, hlv⟩ : ∃ l, pairsV (ways R) = l := ⟨_, rfl⟩
  have HV := hid hlv
  rw [hlv] at HPr hpl
  obtain ⟨N, hNl⟩ : ∃ N, l.length = N := ⟨_, rfl⟩
  have HNl := hid hNl
  rw [hNl] at hpl HPr
  have hNz : (N : Int) ≤ 50000 := by omega
  have hne : ((N : Int) != (N : Int)) = false := by simp
  clear hLB hR hlw hl hn hlv hNl hpl
  go_enter Try.func12, Try.ntmps12
  go_wp2_with fail
  refine HPr.out.mono ?_; rintro e w3 ⟨q, d, rfl, hh⟩
  have HP3 := hid hh.out.1
  have HB3 := hid hh.out.2
  have HR3 := hid (HR.out.below HB3.out)
  have HRp := hid (rpairs_any G P a R c w3 HR3.out (by have := HL.out; omega))
  rw [HV.out, HNl.out, HN.out] at HRp
  clear hh HPr
  go_wp2_with fail
  refine HRp.out.mono ?_; rintro e w4 ⟨q', d', rfl, hh⟩
  have hown : OwnP w3.heap.size w4 (.slice q' l.length d') l := by rw [HNl.out]; exact hh.out.1
  have HP4 := hid (hown.rd)
  have HQ4 := hid (HP3.out.below hh.out.2)
  have HR4 := hid (HR3.out.below hh.out.2)
  have HB4 := hid (HB3.out.trans (hh.out.2.mono HB3.out.size))
  clear hh hown HRp HP3 HR3 HB3
  go_wp2_with fail
  go_loopw [19] (fun v19 W => ∃ i : Nat, v19 = .int .i64 (i : Int) ∧ i ≤ N ∧ Hid (Below w4.heap.size w4 W)) (fun v19 _ => N - (intOf v19).toNat)
  case atStart => exact ⟨0, rfl, Nat.zero_le _, Below.refl _ _⟩
  case round =>
    obtain ⟨i, rfl, hi, HB⟩ := hrel
    by_cases hlt : i < N
    · have hiz : (i : Int) < (N : Int) := by omega
      have hiL : i < l.length := by have := HNl.out; omega
      have hne0 : l ≠ [] := fun e => by rw [e] at hiL; simp at hiL
      obtain ⟨g1, o1, rfl, -, hl1, hc1⟩ := HQ4.out hne0
      obtain ⟨g2, o2, rfl, -, hl2, hc2⟩ := HP4.out hne0
      obtain ⟨s0, s1⟩ := hc1 i hiL
      obtain ⟨t0, t1⟩ := hc2 i hiL
      obtain ⟨pa, hpa⟩ : ∃ x, l[i].1 = x := ⟨_, rfl⟩
      obtain ⟨pb, hpb⟩ : ∃ x, l[i].2 = x := ⟨_, rfl⟩
      have HIE : Hid (IE pa pb) := by unfold Hid; rw [← hpa, ← hpb]; exact C.ends HLB.out _ _ ((pairsV_mem _ l[i]).1 (by rw [HV.out]; exact List.getElem_mem hiL))
      rw [hpa] at s0 t0
      rw [hpb] at s1 t1
      have hg1 : g1 < wr.heap.size := Nat.lt_of_lt_of_le hl1 HB.out.size
      have hg2 : g2 < wr.heap.size := Nat.lt_of_lt_of_le hl2 HB.out.size
      have u0 : wr.drew.cell? ⟨g1, o1 + i * 2, none⟩ = some (.int .i64 pa) := cell_turn s0 (HB.out.block g1 hl1)
      have u1 : wr.drew.cell? ⟨g1, o1 + i * 2 + 1, none⟩ = some (.int .i64 pb) := cell_turn s1 (HB.out.block g1 hl1)
      have v0 : wr.drew.cell? ⟨g2, o2 + i * 2, none⟩ = some (.int .i64 pa) := cell_turn t0 (HB.out.block g2 hl2)
      have v1 : wr.drew.cell? ⟨g2, o2 + i * 2 + 1, none⟩ = some (.int .i64 pb) := cell_turn t1 (HB.out.block g2 hl2)
      have heq : ∀ W : World, (Op.equalIn 10000 41 (.agg #[.int .i64 pa, .int .i64 pb]) (.agg #[.int .i64 pa, .int .i64 pb])).run Try.prog W = .ok true W := fun W => by
        have := eq_ends pa pb pa pb W
        simpa using this
      have HBw : Hid (Below w.heap.size w wr.drew) := (HB4.out.trans (HB.out.mono HB4.out.size)).drew
      have HWt := hid (C.waiting (C.keep HLB.out (fun k hk => HBw.out.block k (HLt.out k hk)) HBw.out.size) pa pb HIE.out (by have := HLW.out; omega))
      have HRw : Hid (∀ W, Below wr.drew.heap.size wr.drew W → Calls Try.prog 22 #[.slice a n c, .int .i64 pa, .int .i64 pb] W fun e w' => e = .returned (.int .i64 ((onV (ways R) pa pb).length : Int)) ∧ w' = W) := fun W hb => by
        have := rwait_any G P a R c pa pb W ((HR4.out.below HB.out).below ((Below.refl _ _).drew.trans hb)) (by have := HL.out; omega)
        rw [HN.out] at this
        exact this
      obtain ⟨K1, hK1⟩ : ∃ x, (onV (ways R) pa pb).length = x := ⟨_, rfl⟩
      rw [hK1] at HWt HRw
      have hneK : ((K1 : Int) != (K1 : Int)) = false := by simp
      clear s0 s1 t0 t1 hc1 hc2 hpa hpb hK1
      go_upto_region 7 with fail
      go_cut [57] (fun c57 wx => c57 = .bool false ∧ Below wr.heap.size wr wx)
      case first =>
        refine wp_region_noPanic ?_
        refine wp_region_held_drew (S := fun W => W.cell? ⟨g1, o1 + i * 2, none⟩ = some (.int .i64 pa) ∧ W.cell? ⟨g1, o1 + i * 2 + 1, none⟩ = some (.int .i64 pb) ∧ W.cell? ⟨g2, o2 + i * 2, none⟩ = some (.int .i64 pa) ∧ W.cell? ⟨g2, o2 + i * 2 + 1, none⟩ = some (.int .i64 pb)) (by kernel_rfl) ⟨u0, u1, v0, v1⟩ (fun hHeld => ?_)
        refine wpAnyH_take (i := 0) (oi := { dst := some 22, op := Op.move (Operand.tmp 5), type := 48, pos := "law.go:69", after := #[], guard := none }) (v := .slice (some ⟨g1, o1, none⟩) N d) rfl (by kernel_rfl) (by kernel_rfl) (by kernel_rfl) (fun _ _ _ h => h) (Or.inl ⟨by rfl, fun wS hSw => ?_⟩) (by assumption) ?_
        · clear hHeld
          clear hSw
          go_simp
        try simp only [Act.put, List.setIfInBounds_toArray, List.set_cons_zero, List.set_cons_succ]
        refine wpAnyH_take (i := 1) (oi := { dst := some 23, op := Op.move (Operand.tmp 7), type := 3, pos := "law.go:69", after := #[], guard := none }) (v := .int .i64 (i : Int)) rfl (by kernel_rfl) (by kernel_rfl) (by kernel_rfl) (fun _ _ _ h => h) (Or.inl ⟨by rfl, fun wS hSw => ?_⟩) (by assumption) ?_
        · clear hHeld
          clear hSw
          go_simp
        try simp only [Act.put, List.setIfInBounds_toArray, List.set_cons_zero, List.set_cons_succ]
        refine wpAnyH_take (i := 2) (oi := { dst := some 24, op := Op.indexAddr 48 (Operand.tmp 22) (Operand.tmp 23), type := 0, pos := "law.go:69", after := #[{ on := 0, ground := Ground.data }, { on := 1, ground := Ground.data }], guard := none }) (v := .pointer (some ⟨g1, o1 + i * 2, none⟩)) rfl (by kernel_rfl) (by kernel_rfl) (by kernel_rfl) (fun _ _ _ h => h) (Or.inl ⟨by rfl, fun wS hSw => ?_⟩) (by assumption) ?_
        · clear hHeld
          clear hSw
          go_simp
        try simp only [Act.put, List.setIfInBounds_toArray, List.set_cons_zero, List.set_cons_succ]
        refine wpAnyH_take (i := 3) (oi := { dst := some 25, op := Op.load 41 (Operand.tmp 24), type := 41, pos := "law.go:69", after := #[{ on := 2, ground := Ground.data }], guard := none }) (v := .agg #[.int .i64 pa, .int .i64 pb]) rfl (by kernel_rfl) (by kernel_rfl) (by kernel_rfl) (fun _ _ _ h => h) (Or.inl ⟨by rfl, fun wS hSw => ?_⟩) (by assumption) ?_
        · clear hHeld
          obtain ⟨y0, y1, y2, y3⟩ := hSw
          go_simp
        try simp only [Act.put, List.setIfInBounds_toArray, List.set_cons_zero, List.set_cons_succ]
        refine wpAnyH_take (i := 4) (oi := { dst := some 26, op := Op.move (Operand.tmp 6), type := 48, pos := "law.go:69", after := #[], guard := none }) (v := .slice (some ⟨g2, o2, none⟩) N d') rfl (by kernel_rfl) (by kernel_rfl) (by kernel_rfl) (fun _ _ _ h => h) (Or.inl ⟨by rfl, fun wS hSw => ?_⟩) (by assumption) ?_
        · clear hHeld
          clear hSw
          go_simp
        try simp only [Act.put, List.setIfInBounds_toArray, List.set_cons_zero, List.set_cons_succ]
        refine wpAnyH_take (i := 5) (oi := { dst := some 27, op := Op.move (Operand.tmp 7), type := 3, pos := "law.go:69", after := #[], guard := none }) (v := .int .i64 (i : Int)) rfl (by kernel_rfl) (by kernel_rfl) (by kernel_rfl) (fun _ _ _ h => h) (Or.inl ⟨by rfl, fun wS hSw => ?_⟩) (by assumption) ?_
        · clear hHeld
          clear hSw
          go_simp
        try simp only [Act.put, List.setIfInBounds_toArray, List.set_cons_zero, List.set_cons_succ]
        refine wpAnyH_take (i := 6) (oi := { dst := some 28, op := Op.indexAddr 48 (Operand.tmp 26) (Operand.tmp 27), type := 0, pos := "law.go:69", after := #[{ on := 4, ground := Ground.data }, { on := 5, ground := Ground.data }], guard := none }) (v := .pointer (some ⟨g2, o2 + i * 2, none⟩)) rfl (by kernel_rfl) (by kernel_rfl) (by kernel_rfl) (fun _ _ _ h => h) (Or.inl ⟨by rfl, fun wS hSw => ?_⟩) (by assumption) ?_
        · clear hHeld
          clear hSw
          go_simp
        try simp only [Act.put, List.setIfInBounds_toArray, List.set_cons_zero, List.set_cons_succ]
        refine wpAnyH_take (i := 7) (oi := { dst := some 29, op := Op.load 41 (Operand.tmp 28), type := 41, pos := "law.go:69", after := #[{ on := 6, ground := Ground.data }], guard := none }) (v := .agg #[.int .i64 pa, .int .i64 pb]) rfl (by kernel_rfl) (by kernel_rfl) (by kernel_rfl) (fun _ _ _ h => h) (Or.inl ⟨by rfl, fun wS hSw => ?_⟩) (by assumption) ?_
        · clear hHeld
          obtain ⟨y0, y1, y2, y3⟩ := hSw
          go_simp
        try simp only [Act.put, List.setIfInBounds_toArray, List.set_cons_zero, List.set_cons_succ]
        refine wpAnyH_take (i := 8) (oi := { dst := some 30, op := Op.binOp BinOp.neq 41 (Operand.tmp 25) (Operand.tmp 29) 41, type := 4, pos := "law.go:69", after := #[{ on := 3, ground := Ground.data }, { on := 7, ground := Ground.data }], guard := none }) (v := .bool false) rfl (by kernel_rfl) (by kernel_rfl) (by kernel_rfl) (fun _ _ _ h => h) (Or.inl ⟨by rfl, fun wS hSw => ?_⟩) (by assumption) ?_
        · clear hHeld
          clear hSw
          go_simp
        try simp only [Act.put, List.setIfInBounds_toArray, List.set_cons_zero, List.set_cons_succ]
        refine wpAnyH_take (i := 9) (oi := { dst := some 31, op := Op.move (Operand.tmp 30), type := 4, pos := "law.go:69", after := #[{ on := 8, ground := Ground.data }], guard := none }) (v := .bool false) rfl (by kernel_rfl) (by kernel_rfl) (by kernel_rfl) (fun _ _ _ h => h) (Or.inl ⟨by rfl, fun wS hSw => ?_⟩) (by assumption) ?_
        · clear hHeld
          clear hSw
          go_simp
        try simp only [Act.put, List.setIfInBounds_toArray, List.set_cons_zero, List.set_cons_succ]
        refine wpAnyH_take (i := 10) (oi := { dst := some 32, op := Op.move (Operand.tmp 0), type := 23, pos := "law.go:69", after := #[{ on := 9, ground := Ground.guard }], guard := some (9, false) }) (v := ptr b) rfl (by kernel_rfl) (by kernel_rfl) (by kernel_rfl) (fun _ _ _ h => h) (Or.inl ⟨by rfl, fun wS hSw => ?_⟩) (by assumption) ?_
        · clear hHeld
          clear hSw
          go_simp
        try simp only [Act.put, List.setIfInBounds_toArray, List.set_cons_zero, List.set_cons_succ]
        refine wpAnyH_take (i := 11) (oi := { dst := some 33, op := Op.move (Operand.tmp 5), type := 48, pos := "law.go:69", after := #[{ on := 9, ground := Ground.guard }], guard := some (9, false) }) (v := .slice (some ⟨g1, o1, none⟩) N d) rfl (by kernel_rfl) (by kernel_rfl) (by kernel_rfl) (fun _ _ _ h => h) (Or.inl ⟨by rfl, fun wS hSw => ?_⟩) (by assumption) ?_
        · clear hHeld
          clear hSw
          go_simp
        try simp only [Act.put, List.setIfInBounds_toArray, List.set_cons_zero, List.set_cons_succ]
        refine wpAnyH_take (i := 12) (oi := { dst := some 34, op := Op.move (Operand.tmp 7), type := 3, pos := "law.go:69", after := #[{ on := 9, ground := Ground.guard }], guard := some (9, false) }) (v := .int .i64 (i : Int)) rfl (by kernel_rfl) (by kernel_rfl) (by kernel_rfl) (fun _ _ _ h => h) (Or.inl ⟨by rfl, fun wS hSw => ?_⟩) (by assumption) ?_
        · clear hHeld
          clear hSw
          go_simp
        try simp only [Act.put, List.setIfInBounds_toArray, List.set_cons_zero, List.set_cons_succ]
        refine wpAnyH_take (i := 13) (oi := { dst := some 35, op := Op.indexAddr 48 (Operand.tmp 33) (Operand.tmp 34), type := 0, pos := "law.go:69", after := #[{ on := 11, ground := Ground.data }, { on := 12, ground := Ground.data }, { on := 9, ground := Ground.guard }], guard := some (9, false) }) (v := .pointer (some ⟨g1, o1 + i * 2, none⟩)) rfl (by kernel_rfl) (by kernel_rfl) (by kernel_rfl) (fun _ _ _ h => h) (Or.inl ⟨by rfl, fun wS hSw => ?_⟩) (by assumption) ?_
        · clear hHeld
          clear hSw
          go_simp
        try simp only [Act.put, List.setIfInBounds_toArray, List.set_cons_zero, List.set_cons_succ]
        refine wpAnyH_take (i := 14) (oi := { dst := some 36, op := Op.indexAddr 41 (Operand.tmp 35) (Operand.const (Value.int IntKind.i64 0)), type := 0, pos := "law.go:69", after := #[{ on := 13, ground := Ground.data }, { on := 9, ground := Ground.guard }], guard := some (9, false) }) (v := .pointer (some ⟨g1, o1 + i * 2, none⟩)) rfl (by kernel_rfl) (by kernel_rfl) (by kernel_rfl) (fun _ _ _ h => h) (Or.inl ⟨by rfl, fun wS hSw => ?_⟩) (by assumption) ?_
        · clear hHeld
          clear hSw
          go_simp
        try simp only [Act.put, List.setIfInBounds_toArray, List.set_cons_zero, List.set_cons_succ]
        refine wpAnyH_take (i := 15) (oi := { dst := some 37, op := Op.load 3 (Operand.tmp 36), type := 3, pos := "law.go:69", after := #[{ on := 14, ground := Ground.data }, { on := 9, ground := Ground.guard }], guard := some (9, false) }) (v := .int .i64 pa) rfl (by kernel_rfl) (by kernel_rfl) (by kernel_rfl) (fun _ _ _ h => h) (Or.inl ⟨by rfl, fun wS hSw => ?_⟩) (by assumption) ?_
        · clear hHeld
          obtain ⟨y0, y1, y2, y3⟩ := hSw
          go_simp
        try simp only [Act.put, List.setIfInBounds_toArray, List.set_cons_zero, List.set_cons_succ]
        refine wpAnyH_take (i := 16) (oi := { dst := some 38, op := Op.move (Operand.tmp 5), type := 48, pos := "law.go:69", after := #[{ on := 9, ground := Ground.guard }], guard := some (9, false) }) (v := .slice (some ⟨g1, o1, none⟩) N d) rfl (by kernel_rfl) (by kernel_rfl) (by kernel_rfl) (fun _ _ _ h => h) (Or.inl ⟨by rfl, fun wS hSw => ?_⟩) (by assumption) ?_
        · clear hHeld
          clear hSw
          go_simp
        try simp only [Act.put, List.setIfInBounds_toArray, List.set_cons_zero, List.set_cons_succ]
        refine wpAnyH_take (i := 17) (oi := { dst := some 39, op := Op.move (Operand.tmp 7), type := 3, pos := "law.go:69", after := #[{ on := 9, ground := Ground.guard }], guard := some (9, false) }) (v := .int .i64 (i : Int)) rfl (by kernel_rfl) (by kernel_rfl) (by kernel_rfl) (fun _ _ _ h => h) (Or.inl ⟨by rfl, fun wS hSw => ?_⟩) (by assumption) ?_
        · clear hHeld
          clear hSw
          go_simp
        try simp only [Act.put, List.setIfInBounds_toArray, List.set_cons_zero, List.set_cons_succ]
        refine wpAnyH_take (i := 18) (oi := { dst := some 40, op := Op.indexAddr 48 (Operand.tmp 38) (Operand.tmp 39), type := 0, pos := "law.go:69", after := #[{ on := 16, ground := Ground.data }, { on := 17, ground := Ground.data }, { on := 9, ground := Ground.guard }], guard := some (9, false) }) (v := .pointer (some ⟨g1, o1 + i * 2, none⟩)) rfl (by kernel_rfl) (by kernel_rfl) (by kernel_rfl) (fun _ _ _ h => h) (Or.inl ⟨by rfl, fun wS hSw => ?_⟩) (by assumption) ?_
        · clear hHeld
          clear hSw
          go_simp
        try simp only [Act.put, List.setIfInBounds_toArray, List.set_cons_zero, List.set_cons_succ]
        refine wpAnyH_take (i := 19) (oi := { dst := some 41, op := Op.indexAddr 41 (Operand.tmp 40) (Operand.const (Value.int IntKind.i64 1)), type := 0, pos := "law.go:69", after := #[{ on := 18, ground := Ground.data }, { on := 9, ground := Ground.guard }], guard := some (9, false) }) (v := .pointer (some ⟨g1, o1 + i * 2 + 1, none⟩)) rfl (by kernel_rfl) (by kernel_rfl) (by kernel_rfl) (fun _ _ _ h => h) (Or.inl ⟨by rfl, fun wS hSw => ?_⟩) (by assumption) ?_
        · clear hHeld
          clear hSw
          go_simp
        try simp only [Act.put, List.setIfInBounds_toArray, List.set_cons_zero, List.set_cons_succ]
        refine wpAnyH_take (i := 20) (oi := { dst := some 42, op := Op.load 3 (Operand.tmp 41), type := 3, pos := "law.go:69", after := #[{ on := 19, ground := Ground.data }, { on := 9, ground := Ground.guard }], guard := some (9, false) }) (v := .int .i64 pb) rfl (by kernel_rfl) (by kernel_rfl) (by kernel_rfl) (fun _ _ _ h => h) (Or.inl ⟨by rfl, fun wS hSw => ?_⟩) (by assumption) ?_
        · clear hHeld
          obtain ⟨y0, y1, y2, y3⟩ := hSw
          go_simp
        try simp only [Act.put, List.setIfInBounds_toArray, List.set_cons_zero, List.set_cons_succ]
        refine wpAnyH_take (i := 22) (oi := { dst := some 44, op := Op.move (Operand.tmp 1), type := 27, pos := "law.go:69", after := #[{ on := 9, ground := Ground.guard }], guard := some (9, false) }) (v := .slice a n c) rfl (by kernel_rfl) (by kernel_rfl) (by kernel_rfl) (fun _ _ _ h => h) (Or.inl ⟨by rfl, fun wS hSw => ?_⟩) (by assumption) ?_
        · clear hHeld
          clear hSw
          go_simp
        try simp only [Act.put, List.setIfInBounds_toArray, List.set_cons_zero, List.set_cons_succ]
        refine wpAnyH_take (i := 23) (oi := { dst := some 45, op := Op.move (Operand.tmp 5), type := 48, pos := "law.go:69", after := #[{ on := 9, ground := Ground.guard }], guard := some (9, false) }) (v := .slice (some ⟨g1, o1, none⟩) N d) rfl (by kernel_rfl) (by kernel_rfl) (by kernel_rfl) (fun _ _ _ h => h) (Or.inl ⟨by rfl, fun wS hSw => ?_⟩) (by assumption) ?_
        · clear hHeld
          clear hSw
          go_simp
        try simp only [Act.put, List.setIfInBounds_toArray, List.set_cons_zero, List.set_cons_succ]
        refine wpAnyH_take (i := 24) (oi := { dst := some 46, op := Op.move (Operand.tmp 7), type := 3, pos := "law.go:69", after := #[{ on := 9, ground := Ground.guard }], guard := some (9, false) }) (v := .int .i64 (i : Int)) rfl (by kernel_rfl) (by kernel_rfl) (by kernel_rfl) (fun _ _ _ h => h) (Or.inl ⟨by rfl, fun wS hSw => ?_⟩) (by assumption) ?_
        · clear hHeld
          clear hSw
          go_simp
        try simp only [Act.put, List.setIfInBounds_toArray, List.set_cons_zero, List.set_cons_succ]
        refine wpAnyH_take (i := 25) (oi := { dst := some 47, op := Op.indexAddr 48 (Operand.tmp 45) (Operand.tmp 46), type := 0, pos := "law.go:69", after := #[{ on := 23, ground := Ground.data }, { on := 24, ground := Ground.data }, { on := 9, ground := Ground.guard }], guard := some (9, false) }) (v := .pointer (some ⟨g1, o1 + i * 2, none⟩)) rfl (by kernel_rfl) (by kernel_rfl) (by kernel_rfl) (fun _ _ _ h => h) (Or.inl ⟨by rfl, fun wS hSw => ?_⟩) (by assumption) ?_
        · clear hHeld
          clear hSw
          go_simp
        try simp only [Act.put, List.setIfInBounds_toArray, List.set_cons_zero, List.set_cons_succ]
        refine wpAnyH_take (i := 26) (oi := { dst := some 48, op := Op.indexAddr 41 (Operand.tmp 47) (Operand.const (Value.int IntKind.i64 0)), type := 0, pos := "law.go:69", after := #[{ on := 25, ground := Ground.data }, { on := 9, ground := Ground.guard }], guard := some (9, false) }) (v := .pointer (some ⟨g1, o1 + i * 2, none⟩)) rfl (by kernel_rfl) (by kernel_rfl) (by kernel_rfl) (fun _ _ _ h => h) (Or.inl ⟨by rfl, fun wS hSw => ?_⟩) (by assumption) ?_
        · clear hHeld
          clear hSw
          go_simp
        try simp only [Act.put, List.setIfInBounds_toArray, List.set_cons_zero, List.set_cons_succ]
        refine wpAnyH_take (i := 27) (oi := { dst := some 49, op := Op.load 3 (Operand.tmp 48), type := 3, pos := "law.go:69", after := #[{ on := 26, ground := Ground.data }, { on := 9, ground := Ground.guard }], guard := some (9, false) }) (v := .int .i64 pa) rfl (by kernel_rfl) (by kernel_rfl) (by kernel_rfl) (fun _ _ _ h => h) (Or.inl ⟨by rfl, fun wS hSw => ?_⟩) (by assumption) ?_
        · clear hHeld
          obtain ⟨y0, y1, y2, y3⟩ := hSw
          go_simp
        try simp only [Act.put, List.setIfInBounds_toArray, List.set_cons_zero, List.set_cons_succ]
        refine wpAnyH_take (i := 28) (oi := { dst := some 50, op := Op.move (Operand.tmp 5), type := 48, pos := "law.go:69", after := #[{ on := 9, ground := Ground.guard }], guard := some (9, false) }) (v := .slice (some ⟨g1, o1, none⟩) N d) rfl (by kernel_rfl) (by kernel_rfl) (by kernel_rfl) (fun _ _ _ h => h) (Or.inl ⟨by rfl, fun wS hSw => ?_⟩) (by assumption) ?_
        · clear hHeld
          clear hSw
          go_simp
        try simp only [Act.put, List.setIfInBounds_toArray, List.set_cons_zero, List.set_cons_succ]
        refine wpAnyH_take (i := 29) (oi := { dst := some 51, op := Op.move (Operand.tmp 7), type := 3, pos := "law.go:69", after := #[{ on := 9, ground := Ground.guard }], guard := some (9, false) }) (v := .int .i64 (i : Int)) rfl (by kernel_rfl) (by kernel_rfl) (by kernel_rfl) (fun _ _ _ h => h) (Or.inl ⟨by rfl, fun wS hSw => ?_⟩) (by assumption) ?_
        · clear hHeld
          clear hSw
          go_simp
        try simp only [Act.put, List.setIfInBounds_toArray, List.set_cons_zero, List.set_cons_succ]
        refine wpAnyH_take (i := 30) (oi := { dst := some 52, op := Op.indexAddr 48 (Operand.tmp 50) (Operand.tmp 51), type := 0, pos := "law.go:69", after := #[{ on := 28, ground := Ground.data }, { on := 29, ground := Ground.data }, { on := 9, ground := Ground.guard }], guard := some (9, false) }) (v := .pointer (some ⟨g1, o1 + i * 2, none⟩)) rfl (by kernel_rfl) (by kernel_rfl) (by kernel_rfl) (fun _ _ _ h => h) (Or.inl ⟨by rfl, fun wS hSw => ?_⟩) (by assumption) ?_
        · clear hHeld
          clear hSw
          go_simp
        try simp only [Act.put, List.setIfInBounds_toArray, List.set_cons_zero, List.set_cons_succ]
        refine wpAnyH_take (i := 31) (oi := { dst := some 53, op := Op.indexAddr 41 (Operand.tmp 52) (Operand.const (Value.int IntKind.i64 1)), type := 0, pos := "law.go:69", after := #[{ on := 30, ground := Ground.data }, { on := 9, ground := Ground.guard }], guard := some (9, false) }) (v := .pointer (some ⟨g1, o1 + i * 2 + 1, none⟩)) rfl (by kernel_rfl) (by kernel_rfl) (by kernel_rfl) (fun _ _ _ h => h) (Or.inl ⟨by rfl, fun wS hSw => ?_⟩) (by assumption) ?_
        · clear hHeld
          clear hSw
          go_simp
        try simp only [Act.put, List.setIfInBounds_toArray, List.set_cons_zero, List.set_cons_succ]
        refine wpAnyH_take (i := 32) (oi := { dst := some 54, op := Op.load 3 (Operand.tmp 53), type := 3, pos := "law.go:69", after := #[{ on := 31, ground := Ground.data }, { on := 9, ground := Ground.guard }], guard := some (9, false) }) (v := .int .i64 pb) rfl (by kernel_rfl) (by kernel_rfl) (by kernel_rfl) (fun _ _ _ h => h) (Or.inl ⟨by rfl, fun wS hSw => ?_⟩) (by assumption) ?_
        · clear hHeld
          obtain ⟨y0, y1, y2, y3⟩ := hSw
          go_simp
        try simp only [Act.put, List.setIfInBounds_toArray, List.set_cons_zero, List.set_cons_succ]
        refine wpAnyH_ready (rs := [21]) (by kernel_rfl) (by simp) ?_
        refine AllReadyH.cons (o := { dst := some 43, op := Op.call { callee := Callee.value (Operand.func 18), args := #[Operand.tmp 32, Operand.tmp 37, Operand.tmp 42], argTypes := #[23, 3, 3] }, type := 3, pos := "law.go:69", after := #[{ on := 10, ground := Ground.data }, { on := 15, ground := Ground.data }, { on := 20, ground := Ground.data }, { on := 9, ground := Ground.chain }, { on := 9, ground := Ground.guard }], guard := some (9, false) }) rfl (fun K hK => ?_) AllReadyH.nil
        clear hHeld
        go_simp
        refine HWt.out.mono ?_; rintro e w5 ⟨rfl, hb5⟩
        have HRw5 := hid (HRw.out w5 hb5.out)
        have HB5 : Hid (Below wr.heap.size wr w5) := (Below.refl _ _).drew.trans hb5.out
        have hs5 : (fun W : World => W.cell? ⟨g1, o1 + i * 2, none⟩ = some (.int .i64 pa) ∧ W.cell? ⟨g1, o1 + i * 2 + 1, none⟩ = some (.int .i64 pb) ∧ W.cell? ⟨g2, o2 + i * 2, none⟩ = some (.int .i64 pa) ∧ W.cell? ⟨g2, o2 + i * 2 + 1, none⟩ = some (.int .i64 pb)) w5 := ⟨cell_turn u0 (hb5.out.block g1 hg1), cell_turn u1 (hb5.out.block g1 hg1), cell_turn v0 (hb5.out.block g2 hg2), cell_turn v1 (hb5.out.block g2 hg2)⟩
        clear hb5
        try go_wp2_with fail
        refine hK.out _ _ hs5 (fun hHeld => ?_)
        clear hK K
        try simp only [Act.put, List.setIfInBounds_toArray, List.set_cons_zero, List.set_cons_succ]
        refine wpAnyH_ready (rs := [33]) (by kernel_rfl) (by simp) ?_
        refine AllReadyH.cons (o := { dst := some 55, op := Op.call { callee := Callee.value (Operand.func 22), args := #[Operand.tmp 44, Operand.tmp 49, Operand.tmp 54], argTypes := #[27, 3, 3] }, type := 3, pos := "law.go:69", after := #[{ on := 22, ground := Ground.data }, { on := 27, ground := Ground.data }, { on := 32, ground := Ground.data }, { on := 21, ground := Ground.chain }, { on := 9, ground := Ground.guard }], guard := some (9, false) }) rfl (fun K hK => ?_) AllReadyH.nil
        clear hHeld
        go_simp
        refine HRw5.out.mono ?_; rintro e w6 ⟨rfl, rfl⟩
        try go_wp2_with fail
        refine hK.out _ _ hs5 (fun hHeld => ?_)
        clear hK K
        try simp only [Act.put, List.setIfInBounds_toArray, List.set_cons_zero, List.set_cons_succ]
        refine wpAnyH_take (i := 34) (oi := { dst := some 56, op := Op.binOp BinOp.neq 3 (Operand.tmp 43) (Operand.tmp 55) 3, type := 4, pos := "law.go:69", after := #[{ on := 21, ground := Ground.data }, { on := 33, ground := Ground.data }, { on := 9, ground := Ground.guard }], guard := some (9, false) }) (v := .bool false) rfl (by kernel_rfl) (by kernel_rfl) (by kernel_rfl) (fun _ _ _ h => h) (Or.inl ⟨by rfl, fun wS hSw => ?_⟩) (by assumption) ?_
        · clear hHeld
          clear hSw
          go_simp
        try simp only [Act.put, List.setIfInBounds_toArray, List.set_cons_zero, List.set_cons_succ]
        refine wpAnyH_take (i := 35) (oi := { dst := some 57, op := Op.pick (Operand.tmp 31) (Operand.const (Value.bool true)) (Operand.tmp 56), type := 4, pos := "law.go:69", after := #[{ on := 9, ground := Ground.data }, { on := 34, ground := Ground.data }], guard := none }) (v := .bool false) rfl (by kernel_rfl) (by kernel_rfl) (by kernel_rfl) (fun _ _ _ h => h) (Or.inl ⟨by rfl, fun wS hSw => ?_⟩) (by assumption) ?_
        · clear hHeld
          clear hSw
          go_simp
        try simp only [Act.put, List.setIfInBounds_toArray, List.set_cons_zero, List.set_cons_succ]
        clear hHeld
        refine wpAnyH_done (by kernel_rfl) ?_ _
        refine NoPanic.normal ?_
        go_wp2_with fail
        go_meet
        exact ⟨rfl, HB5.out⟩
      case rest =>
      obtain ⟨rfl, hbn⟩ := hcut
      have HBn := hid (HB.out.trans (hbn.mono HB.out.size))
      clear u0 u1 v0 v1 heq HWt HRw hbn
      go_wp2_with fail
      exact ⟨⟨i + 1, by go_num, by omega, HBn.out⟩, by simp [intOf]; omega⟩
    · go_wp2_with fail
      go_ret
      exact ⟨rfl, HB4.out.trans (HB.out.mono HB4.out.size)⟩

end Go.Proofs.Ytjcfbnhmljlkpaa
