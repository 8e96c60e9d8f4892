/- The document's Pairs. -/
import Derived.Test.YtjcfbnhmljlkpaaLkPr
namespace Go.Proofs.Ytjcfbnhmljlkpaa
open Go.RowKit

theorem insV_len (p : Int × Int) : ∀ l : List (Int × Int), (insV p l).length ≤ l.length + 1
  | [] => by simp [insV]
  | q :: r => by
    have := insV_len p r
    simp only [insV]
    split
    · simp
    · split <;> simp <;> omega
theorem pairsV_snoc (l : List Wy) (y : Wy) : pairsV (l ++ [y]) = insV (y.frm, y.dst) (pairsV l) := by simp [pairsV, List.foldl_append]
theorem pairsV_len (l : List Wy) : (pairsV l).length ≤ l.length := by
  have key : ∀ (l : List Wy) (a : List (Int × Int)), (l.foldl (fun a y => insV (y.frm, y.dst) a) a).length ≤ a.length + l.length := fun l => by
    induction l with
    | nil => intro a; simp
    | cons y l ih =>
      intro a
      have h1 := ih (insV (y.frm, y.dst) a)
      have h2 := insV_len (y.frm, y.dst) a
      simp only [List.foldl_cons, List.length_cons]
      omega
  simpa [pairsV] using key l []
/-- what is still to come of a row in which p is put -/
def tailV (p : Int × Int) (done : Bool) (l : List (Int × Int)) : List (Int × Int) := if done = true then l else insV p l
theorem tailV_len (p : Int × Int) (b : Bool) (l : List (Int × Int)) : (tailV p b l).length ≤ l.length + 1 := by
  unfold tailV; split
  · omega
  · exact insV_len p l
theorem tailV_eq (p : Int × Int) (l : List (Int × Int)) : tailV p false (p :: l) = p :: tailV p true l := by simp [tailV, insV]
theorem tailV_bef {p q : Int × Int} (l : List (Int × Int)) (h : ¬ q = p) (hb : befV p q = true) : tailV p false (q :: l) = p :: q :: tailV p true l := by simp [tailV, insV, h, hb]
theorem tailV_not {p q : Int × Int} (l : List (Int × Int)) (h : ¬ q = p) (hb : befV p q = false) : tailV p false (q :: l) = q :: tailV p false l := by simp [tailV, insV, h, hb]
theorem tailV_done {p q : Int × Int} (l : List (Int × Int)) : tailV p true (q :: l) = q :: tailV p true l := by simp [tailV]
theorem OwnP.mono {B C : Nat} {w : World} {v : Value} {l : List (Int × Int)} (h : OwnP C w v l) (hB : B ≤ C) : OwnP B w v l := by
  refine ⟨h.1, ?_⟩
  rcases h.2 with h | ⟨g, cap, cur, h1, h2, h3⟩
  · exact .inl h
  · exact .inr ⟨g, cap, cur, h1, Nat.le_trans hB h2, h3⟩
theorem pr_facts {w : World} {g : Nat} {p : Int × Int} (h : w.heap[g]? = some (.cells (prC p) 41 (0, 0))) : w.cell? ⟨g, 0, none⟩ = some (.int .i64 p.1) ∧ w.cell? ⟨g, 1, none⟩ = some (.int .i64 p.2) :=
  ⟨cell_of_row w g 0 _ _ _ h, cell_of_row w g 1 _ _ _ h⟩
set_option maxHeartbeats 4000000 in
set_option maxRecDepth 100000 in
/-- ref Pairs -/
theorem rpairs_any (G P : Nat → Prop) (a : Option Addr) (R : List Wm) (c : Nat) (w : World) (h : Rdw G P w a R) (hl : R.length ≤ 1000000) :
    Calls Try.prog 21 #[.slice a R.length c] w fun e w' => ∃ q d, e = .returned (.slice q (pairsV (ways R)).length d) ∧ Hid (OwnP w.heap.size w' (.slice q (pairsV (ways R)).length d) (pairsV (ways R)) ∧ Below w.heap.size w w') := by
  have H := hid h
  obtain ⟨n, hn⟩ : ∃ n, R.length = n := ⟨_, rfl⟩
  have HN := hid hn
  rw [hn]
  have hlz : (n : Int) ≤ 1000000 := by omega
  clear h hn
  go_enter Try.func21, Try.ntmps21
  go_wp2_with fail
  go_loopw [3, 4] (fun v3 v4 W => ∃ (i : Nat) (q3 : Option Addr) (d3 N3 : Nat), v4 = .int .i64 (i : Int) ∧ i ≤ n ∧ v3 = .slice q3 N3 d3 ∧ Hid ((pairsV (ways (R.take i))).length = N3) ∧ Hid (OwnP w.heap.size W (.slice q3 N3 d3) (pairsV (ways (R.take i)))) ∧ Hid (Below w.heap.size w W)) (fun _ v4 _ => n - (intOf v4).toNat)
  case atStart => exact ⟨0, none, 0, 0, rfl, Nat.zero_le _, rfl, rfl, World.ownsRow_nil _ _ _ _, Below.refl _ _⟩
  case round =>
    obtain ⟨i, q3, d3, N3, rfl, hi, rfl, HN3, HO, HB⟩ := hrel
    by_cases hlt : i < n
    · have hiz : (i : Int) < (n : Int) := by omega
      have hiR : i < R.length := by have := HN.out; omega
      obtain ⟨g, o, rfl, -, -, hc⟩ := (H.out.below HB.out).facts i hiR
      have x0 : wr.cell? ⟨g, o + i * 15, none⟩ = some (.int .i64 R[i].y.frm) := hc 0 (by decide)
      have x1 : wr.cell? ⟨g, o + i * 15 + 1, none⟩ = some (.int .i64 R[i].y.dst) := hc 1 (by decide)
      have HX : Hid (pairsV (ways (R.take (i + 1))) = insV (R[i].y.frm, R[i].y.dst) (pairsV (ways (R.take i)))) := by
        unfold Hid
        rw [List.take_succ_eq_append_getElem hiR, ways, List.map_append]
        exact pairsV_snoc _ _
      have HL0 : Hid ((pairsV (ways (R.take i))).length ≤ i) := by
        have := pairsV_len (ways (R.take i))
        unfold Hid
        rw [List.length_map, List.length_take] at this
        omega
      have hN3z : (N3 : Int) ≤ 1000000 := by have h1 := HN3.out; have h2 := HL0.out; omega
      generalize R[i].y.frm = pa at *
      generalize R[i].y.dst = pb at *
      generalize hout : pairsV (ways (R.take i)) = out at *
      clear hout hc
      have hgl := block_lt_of_cell x0
      have y0 : (wr.alloc (.cells #[.int .i64 0, .int .i64 0] 41)).drew.cell? ⟨g, o + i * 15, none⟩ = some (.int .i64 pa) := cell_turn x0 ((below_alloc wr _).block g hgl)
      have y1 : (wr.alloc (.cells #[.int .i64 0, .int .i64 0] 41)).drew.cell? ⟨g, o + i * 15 + 1, none⟩ = some (.int .i64 pb) := cell_turn x1 ((below_alloc wr _).block g hgl)
      go_upto_region 5 with fail
      go_cut [5] (fun c5 wx => c5 = .pointer (some ⟨wr.heap.size, 0, none⟩) ∧ wx.heap[wr.heap.size]? = some (.cells (prC (pa, pb)) 41 (0, 0)) ∧ wx.heap.size = wr.heap.size + 1 ∧ Below wr.heap.size wr wx)
      case first =>
        go_region
        all_goals
          go_wp2_with fail
          go_meet
          exact ⟨rfl, heap_alloc_new wr _, by show (wr.alloc _).heap.size = _; simp, (below_alloc wr _).drew⟩
      case rest =>
      obtain ⟨rfl, hp2, hs2, hb2⟩ := hcut
      generalize wc = w2 at *
      generalize wr = w1 at *
      have HP2 := hid hp2
      have HB2 := hid (HB.out.trans (hb2.mono HB.out.size))
      have HO2 := hid (owns_below HO.out hb2)
      have HRo := hid (OwnP.rd (l := out) HO2.out)
      have hsz := HB.out.size
      clear hp2 hb2 y0 y1 x0 x1 HB HO
      go_wp2_with fail
      go_loopw [6, 7, 8] (fun v6 v7 v8 W => ∃ (k : Nat) (q6 : Option Addr) (d6 N6 : Nat) (dn : Bool) (nk : List (Int × Int)), v8 = .int .i64 (k : Int) ∧ v7 = .bool dn ∧ v6 = .slice q6 N6 d6 ∧ k ≤ N3 ∧ Hid (nk.length = N6 ∧ nk ++ tailV (pa, pb) dn (out.drop k) = insV (pa, pb) out) ∧ Hid (OwnP w2.heap.size W (.slice q6 N6 d6) nk) ∧ Hid (Below w2.heap.size w2 W)) (fun _ _ v8 _ => N3 - (intOf v8).toNat)
      case atStart => exact ⟨0, none, 0, 0, false, [], rfl, rfl, rfl, Nat.zero_le _, ⟨rfl, rfl⟩, World.ownsRow_nil _ _ _ _, Below.refl _ _⟩
      case round =>
        obtain ⟨k, q6, d6, N6, dn, nk, rfl, rfl, rfl, hk, HK, HO6, HB6⟩ := hrel
        by_cases hkl : k < N3
        · have hkz : (k : Int) < (N3 : Int) := by omega
          have hkL : k < out.length := by have := HN3.out; omega
          obtain ⟨g3, o3, rfl, -, hg3, hc3⟩ := HRo.out (fun e => by rw [e] at hkL; simp at hkL)
          obtain ⟨z0, z1⟩ := hc3 k hkL
          have C0 : Hid (wr.cell? ⟨g3, o3 + k * 2, none⟩ = some (.int .i64 out[k].1)) := cell_turn z0 (HB6.out.block g3 hg3)
          have C1 : Hid (wr.cell? ⟨g3, o3 + k * 2 + 1, none⟩ = some (.int .i64 out[k].2)) := cell_turn z1 (HB6.out.block g3 hg3)
          have hpw : wr.heap[w1.heap.size]? = some (.cells (prC (pa, pb)) 41 (0, 0)) := (HB6.out.block _ (by omega)).trans HP2.out
          have HPW := hid hpw
          have HDr := hid (List.drop_eq_getElem_cons hkL)
          have HQ : Hid (out[k] = (out[k].1, out[k].2)) := rfl
          generalize hq : out[k] = q at *
          obtain ⟨qa, qb⟩ := q
          have heq : ∀ W : World, (Op.equalIn 10000 41 (.agg #[.int .i64 qa, .int .i64 qb]) (.agg #[.int .i64 pa, .int .i64 pb])).run Try.prog W = .ok (qa == pa && qb == pb) W := fun W => eq_ends qa qb pa pb W
          obtain ⟨E, hE⟩ : ∃ E, E = (qa == pa && qb == pb) := ⟨_, rfl⟩
          rw [← hE] at heq
          have HE := hid hE
          have z0' := z0; have z1' := z1
          clear z0 z1 hc3 hq hE hpw
          obtain ⟨e0, e1⟩ : wr.drew.cell? ⟨w1.heap.size, 0, none⟩ = some (.int .i64 pa) ∧ wr.drew.cell? ⟨w1.heap.size, 1, none⟩ = some (.int .i64 pb) := pr_facts HPW.out
          have c0 : wr.drew.cell? ⟨g3, o3 + k * 2, none⟩ = some (.int .i64 qa) := C0.out
          have c1 : wr.drew.cell? ⟨g3, o3 + k * 2 + 1, none⟩ = some (.int .i64 qb) := C1.out
          go_upto_region 11 with fail
          go_cut [37] (fun c37 wx => c37 = .bool E ∧ Below wr.heap.size wr wx)
          case first =>
            go_region
            all_goals
              go_wp2_with fail
              go_meet
              exact ⟨rfl, (Below.refl _ _).drew⟩
          case rest =>
          obtain ⟨rfl, hbn⟩ := hcut
          generalize wc = w3 at *
          have HB6n := hid (HB6.out.trans (hbn.mono HB6.out.size))
          have HO6n : Hid (OwnP w2.heap.size w3 (.slice q6 N6 d6) nk) := owns_below HO6.out hbn
          have HPWn := hid ((hbn.block _ (Array.getElem?_eq_some_iff.1 HPW.out).1).trans HPW.out)
          have C0n := hid (cell_turn C0.out (hbn.block _ (block_lt_of_cell C0.out)))
          have C1n := hid (cell_turn C1.out (hbn.block _ (block_lt_of_cell C1.out)))
          clear HB6 HO6 HPW C0 C1 hbn e0 e1 c0 c1
          have HB6 := HB6n; have HO6 := HO6n; have HPW := HPWn; have C0 := C0n; have C1 := C1n
          clear HB6n HO6n HPWn C0n C1n
          clear heq
          cases E
          · have hne : ¬ ((qa, qb) : Int × Int) = (pa, pb) := fun e => by
              have e1 : qa = pa := congrArg Prod.fst e
              have e2 : qb = pb := congrArg Prod.snd e
              have := HE.out
              rw [e1, e2] at this
              simp at this
            cases dn
            · obtain ⟨bf, hbf⟩ : ∃ x, befV (pa, pb) (qa, qb) = x := ⟨_, rfl⟩
              have HBF := hid hbf
              clear hbf
              obtain ⟨e0, e1⟩ : w3.drew.cell? ⟨w1.heap.size, 0, none⟩ = some (.int .i64 pa) ∧ w3.drew.cell? ⟨w1.heap.size, 1, none⟩ = some (.int .i64 pb) := pr_facts HPW.out
              have c0 : w3.drew.cell? ⟨g3, o3 + k * 2, none⟩ = some (.int .i64 qa) := C0.out
              have c1 : w3.drew.cell? ⟨g3, o3 + k * 2 + 1, none⟩ = some (.int .i64 qb) := C1.out
              go_upto_region 13 with fail
              go_cut [47] (fun c47 wx => c47 = .bool bf ∧ Below w3.heap.size w3 wx)
              case first =>
                have HBf : Hid (∀ W, Calls Try.prog 32 #[.agg (prC (pa, pb)), .agg (prC (qa, qb))] W fun e w' => e = .returned (.bool bf) ∧ Hid (Below W.heap.size W w')) := fun W => by rw [← HBF.out]; exact rbefore_any (pa, pb) (qa, qb) W
                go_region_law (go_simp; go_at_call 32; (with_reducible refine (HBf.out _).mono ?_); rintro e w8 ⟨rfl, hb8⟩)
                all_goals
                  go_wp2_with fail
                  go_meet
                  exact ⟨rfl, (Below.refl _ _).drew.trans hb8.out⟩
              case rest =>
              obtain ⟨rfl, hbn⟩ := hcut
              generalize wc = w4 at *
              have HB6n := hid (HB6.out.trans (hbn.mono HB6.out.size))
              have HO6n : Hid (OwnP w2.heap.size w4 (.slice q6 N6 d6) nk) := owns_below HO6.out hbn
              have HPWn := hid ((hbn.block _ (Array.getElem?_eq_some_iff.1 HPW.out).1).trans HPW.out)
              have C0n := hid (cell_turn C0.out (hbn.block _ (block_lt_of_cell C0.out)))
              have C1n := hid (cell_turn C1.out (hbn.block _ (block_lt_of_cell C1.out)))
              clear HB6 HO6 HPW C0 C1 hbn e0 e1 c0 c1
              have HB6 := HB6n; have HO6 := HO6n; have HPW := HPWn; have C0 := C0n; have C1 := C1n
              clear HB6n HO6n HPWn C0n C1n
              cases bf
              · -- not before
                have HLx : nk.length = N6 := HK.out.1
                obtain ⟨e0, e1⟩ : w4.cell? ⟨w1.heap.size, 0, none⟩ = some (.int .i64 pa) ∧ w4.cell? ⟨w1.heap.size, 1, none⟩ = some (.int .i64 pb) := pr_facts HPW.out
                have c0 : w4.cell? ⟨g3, o3 + k * 2, none⟩ = some (.int .i64 qa) := C0.out
                have c1 : w4.cell? ⟨g3, o3 + k * 2 + 1, none⟩ = some (.int .i64 qb) := C1.out
                obtain ⟨vx, Wx, hrun, hop, hbp⟩ := OwnP.push HO6.out HB6.out.size (qa, qb) (by have h := HK.out.2; have h1 := congrArg List.length h; rw [List.length_append] at h1; have h2 := insV_len (pa, pb) out; have := HL0.out; omega)
                obtain ⟨qx, dx, rfl⟩ := OwnP.shape hop
                obtain ⟨Nx, hNx⟩ : ∃ N, (nk ++ [(qa, qb)]).length = N := ⟨_, rfl⟩
                rw [hNx] at hrun
                have HNx := hid hNx
                have HRx := hid hrun
                have HOx : Hid (OwnP w2.heap.size Wx (.slice qx Nx dx) (nk ++ [(qa, qb)])) := by unfold Hid OwnP; rw [← hNx]; exact hop
                have HBpx := hid hbp
                clear hrun hop hbp hNx HLx
                go_upto_region 16 with fail
                go_wp2_with (first | (refine wpList_bsliceP rfl _ rfl #[.int .i64 qa, .int .i64 qb] rfl rfl ?_) | (refine wpList_append_runs rfl _ _ 48 48 rfl (.slice q6 N6 d6) (.slice (some ⟨w4.heap.size, 0, none⟩) 1 1) (.slice qx Nx dx) Wx rfl rfl HRx.out (Hid.out ?_)))
                refine hid ?_
                have HBe := hid (HB6.out.trans HBpx.out)
                go_wp2_with fail
                exact ⟨⟨k + 1, qx, dx, Nx, false, nk ++ [(qa, qb)], by go_num, rfl, rfl, by omega, ⟨HNx.out, by have h := HK.out.2; rw [HDr.out] at h; rw [← h]; rw [tailV_not _ hne HBF.out, List.append_assoc]; rfl⟩, HOx.out, HBe.out⟩, by simp [intOf]; omega⟩
              · -- before: p, then q
                have HLx : nk.length = N6 := HK.out.1
                obtain ⟨e0, e1⟩ : w4.cell? ⟨w1.heap.size, 0, none⟩ = some (.int .i64 pa) ∧ w4.cell? ⟨w1.heap.size, 1, none⟩ = some (.int .i64 pb) := pr_facts HPW.out
                have c0 : w4.cell? ⟨g3, o3 + k * 2, none⟩ = some (.int .i64 qa) := C0.out
                have c1 : w4.cell? ⟨g3, o3 + k * 2 + 1, none⟩ = some (.int .i64 qb) := C1.out
                obtain ⟨vx, Wx, hrun, hop, hbp⟩ := OwnP.push HO6.out HB6.out.size (pa, pb) (by have h := HK.out.2; have h1 := congrArg List.length h; rw [List.length_append] at h1; have h2 := insV_len (pa, pb) out; have := HL0.out; omega)
                obtain ⟨qx, dx, rfl⟩ := OwnP.shape hop
                obtain ⟨Nx, hNx⟩ : ∃ N, (nk ++ [(pa, pb)]).length = N := ⟨_, rfl⟩
                rw [hNx] at hrun
                have HNx := hid hNx
                have HRx := hid hrun
                have HOx : Hid (OwnP w2.heap.size Wx (.slice qx Nx dx) (nk ++ [(pa, pb)])) := by unfold Hid OwnP; rw [← hNx]; exact hop
                have HBpx := hid hbp
                clear hrun hop hbp hNx HLx
                go_upto_region 14 with fail
                go_wp2_with (first | (refine wpList_bsliceP rfl _ rfl #[.int .i64 pa, .int .i64 pb] rfl rfl ?_) | (refine wpList_append_runs rfl _ _ 48 48 rfl (.slice q6 N6 d6) (.slice (some ⟨w4.heap.size, 0, none⟩) 1 1) (.slice qx Nx dx) Wx rfl rfl HRx.out (Hid.out ?_)))
                refine hid ?_
                have HB7 := hid (HB6.out.trans HBpx.out)
                have c0x : Wx.cell? ⟨g3, o3 + k * 2, none⟩ = some (.int .i64 qa) := cell_turn z0' (HB7.out.block g3 hg3)
                have c1x : Wx.cell? ⟨g3, o3 + k * 2 + 1, none⟩ = some (.int .i64 qb) := cell_turn z1' (HB7.out.block g3 hg3)
                have HLy : (nk ++ [(pa, pb)]).length = Nx := HNx.out
                clear e0 e1 c0 c1
                obtain ⟨vy, Wy, hrun, hop, hbp⟩ := OwnP.push HOx.out HB7.out.size (qa, qb) (by have h := HK.out.2; have h1 := congrArg List.length h; rw [List.length_append] at h1; have h2 := insV_len (pa, pb) out; have := HL0.out; simp only [List.length_append, List.length_cons, List.length_nil]; omega)
                obtain ⟨qy, dy, rfl⟩ := OwnP.shape hop
                obtain ⟨Ny, hNy⟩ : ∃ N, ((nk ++ [(pa, pb)]) ++ [(qa, qb)]).length = N := ⟨_, rfl⟩
                rw [hNy] at hrun
                have HNy := hid hNy
                have HRy := hid hrun
                have HOy : Hid (OwnP w2.heap.size Wy (.slice qy Ny dy) ((nk ++ [(pa, pb)]) ++ [(qa, qb)])) := by unfold Hid OwnP; rw [← hNy]; exact hop
                have HBpy := hid hbp
                clear hrun hop hbp hNy HLy
                go_upto_region 16 with fail
                go_wp2_with (first | (refine wpList_bsliceP rfl _ rfl #[.int .i64 qa, .int .i64 qb] rfl rfl ?_) | (refine wpList_append_runs rfl _ _ 48 48 rfl (.slice qx Nx dx) (.slice (some ⟨Wx.heap.size, 0, none⟩) 1 1) (.slice qy Ny dy) Wy rfl rfl HRy.out (Hid.out ?_)))
                refine hid ?_
                have HBe := hid (HB7.out.trans HBpy.out)
                go_wp2_with fail
                exact ⟨⟨k + 1, qy, dy, Ny, true, nk ++ [(pa, pb)] ++ [(qa, qb)], by go_num, rfl, rfl, by omega, ⟨HNy.out, by have h := HK.out.2; rw [HDr.out] at h; rw [← h]; rw [tailV_bef _ hne HBF.out, List.append_assoc, List.append_assoc]; rfl⟩, HOy.out, HBe.out⟩, by simp [intOf]; omega⟩
            · -- done
              obtain ⟨e0, e1⟩ : w3.drew.cell? ⟨w1.heap.size, 0, none⟩ = some (.int .i64 pa) ∧ w3.drew.cell? ⟨w1.heap.size, 1, none⟩ = some (.int .i64 pb) := pr_facts HPW.out
              have c0 : w3.drew.cell? ⟨g3, o3 + k * 2, none⟩ = some (.int .i64 qa) := C0.out
              have c1 : w3.drew.cell? ⟨g3, o3 + k * 2 + 1, none⟩ = some (.int .i64 qb) := C1.out
              go_upto_region 13 with fail
              go_cut [47] (fun c47 wx => c47 = .bool false ∧ Below w3.heap.size w3 wx)
              case first =>
                go_region
                all_goals
                  go_wp2_with fail
                  go_meet
                  exact ⟨rfl, (Below.refl _ _).drew⟩
              case rest =>
              obtain ⟨rfl, hbn⟩ := hcut
              generalize wc = w4 at *
              have HB6n := hid (HB6.out.trans (hbn.mono HB6.out.size))
              have HO6n : Hid (OwnP w2.heap.size w4 (.slice q6 N6 d6) nk) := owns_below HO6.out hbn
              have HPWn := hid ((hbn.block _ (Array.getElem?_eq_some_iff.1 HPW.out).1).trans HPW.out)
              have C0n := hid (cell_turn C0.out (hbn.block _ (block_lt_of_cell C0.out)))
              have C1n := hid (cell_turn C1.out (hbn.block _ (block_lt_of_cell C1.out)))
              clear HB6 HO6 HPW C0 C1 hbn e0 e1 c0 c1
              have HB6 := HB6n; have HO6 := HO6n; have HPW := HPWn; have C0 := C0n; have C1 := C1n
              clear HB6n HO6n HPWn C0n C1n
              have HLx : nk.length = N6 := HK.out.1
              obtain ⟨e0, e1⟩ : w4.cell? ⟨w1.heap.size, 0, none⟩ = some (.int .i64 pa) ∧ w4.cell? ⟨w1.heap.size, 1, none⟩ = some (.int .i64 pb) := pr_facts HPW.out
              have c0 : w4.cell? ⟨g3, o3 + k * 2, none⟩ = some (.int .i64 qa) := C0.out
              have c1 : w4.cell? ⟨g3, o3 + k * 2 + 1, none⟩ = some (.int .i64 qb) := C1.out
              obtain ⟨vx, Wx, hrun, hop, hbp⟩ := OwnP.push HO6.out HB6.out.size (qa, qb) (by have h := HK.out.2; have h1 := congrArg List.length h; rw [List.length_append] at h1; have h2 := insV_len (pa, pb) out; have := HL0.out; omega)
              obtain ⟨qx, dx, rfl⟩ := OwnP.shape hop
              obtain ⟨Nx, hNx⟩ : ∃ N, (nk ++ [(qa, qb)]).length = N := ⟨_, rfl⟩
              rw [hNx] at hrun
              have HNx := hid hNx
              have HRx := hid hrun
              have HOx : Hid (OwnP w2.heap.size Wx (.slice qx Nx dx) (nk ++ [(qa, qb)])) := by unfold Hid OwnP; rw [← hNx]; exact hop
              have HBpx := hid hbp
              clear hrun hop hbp hNx HLx
              go_upto_region 16 with fail
              go_wp2_with (first | (refine wpList_bsliceP rfl _ rfl #[.int .i64 qa, .int .i64 qb] rfl rfl ?_) | (refine wpList_append_runs rfl _ _ 48 48 rfl (.slice q6 N6 d6) (.slice (some ⟨w4.heap.size, 0, none⟩) 1 1) (.slice qx Nx dx) Wx rfl rfl HRx.out (Hid.out ?_)))
              refine hid ?_
              have HBe := hid (HB6.out.trans HBpx.out)
              go_wp2_with fail
              exact ⟨⟨k + 1, qx, dx, Nx, true, nk ++ [(qa, qb)], by go_num, rfl, rfl, by omega, ⟨HNx.out, by have h := HK.out.2; rw [HDr.out] at h; rw [← h]; rw [tailV_done, List.append_assoc]; rfl⟩, HOx.out, HBe.out⟩, by simp [intOf]; omega⟩
          · have hpq : ((qa, qb) : Int × Int) = (pa, pb) := by
              have := HE.out
              simp only [Bool.true_eq, Bool.and_eq_true, beq_iff_eq] at this
              rw [this.1, this.2]
            obtain ⟨e0, e1⟩ : w3.drew.cell? ⟨w1.heap.size, 0, none⟩ = some (.int .i64 pa) ∧ w3.drew.cell? ⟨w1.heap.size, 1, none⟩ = some (.int .i64 pb) := pr_facts HPW.out
            have c0 : w3.drew.cell? ⟨g3, o3 + k * 2, none⟩ = some (.int .i64 qa) := C0.out
            have c1 : w3.drew.cell? ⟨g3, o3 + k * 2 + 1, none⟩ = some (.int .i64 qb) := C1.out
            go_upto_region 13 with fail
            go_cut [47] (fun c47 wx => c47 = .bool false ∧ Below w3.heap.size w3 wx)
            case first =>
              go_region
              all_goals
                go_wp2_with fail
                go_meet
                exact ⟨rfl, (Below.refl _ _).drew⟩
            case rest =>
            obtain ⟨rfl, hbn⟩ := hcut
            generalize wc = w4 at *
            have HB6n := hid (HB6.out.trans (hbn.mono HB6.out.size))
            have HO6n : Hid (OwnP w2.heap.size w4 (.slice q6 N6 d6) nk) := owns_below HO6.out hbn
            have HPWn := hid ((hbn.block _ (Array.getElem?_eq_some_iff.1 HPW.out).1).trans HPW.out)
            have C0n := hid (cell_turn C0.out (hbn.block _ (block_lt_of_cell C0.out)))
            have C1n := hid (cell_turn C1.out (hbn.block _ (block_lt_of_cell C1.out)))
            clear HB6 HO6 HPW C0 C1 hbn e0 e1 c0 c1
            have HB6 := HB6n; have HO6 := HO6n; have HPW := HPWn; have C0 := C0n; have C1 := C1n
            clear HB6n HO6n HPWn C0n C1n
            have HLx : nk.length = N6 := HK.out.1
            obtain ⟨e0, e1⟩ : w4.cell? ⟨w1.heap.size, 0, none⟩ = some (.int .i64 pa) ∧ w4.cell? ⟨w1.heap.size, 1, none⟩ = some (.int .i64 pb) := pr_facts HPW.out
            have c0 : w4.cell? ⟨g3, o3 + k * 2, none⟩ = some (.int .i64 qa) := C0.out
            have c1 : w4.cell? ⟨g3, o3 + k * 2 + 1, none⟩ = some (.int .i64 qb) := C1.out
            obtain ⟨vx, Wx, hrun, hop, hbp⟩ := OwnP.push HO6.out HB6.out.size (qa, qb) (by have h := HK.out.2; have h1 := congrArg List.length h; rw [List.length_append] at h1; have h2 := insV_len (pa, pb) out; have := HL0.out; omega)
            obtain ⟨qx, dx, rfl⟩ := OwnP.shape hop
            obtain ⟨Nx, hNx⟩ : ∃ N, (nk ++ [(qa, qb)]).length = N := ⟨_, rfl⟩
            rw [hNx] at hrun
            have HNx := hid hNx
            have HRx := hid hrun
            have HOx : Hid (OwnP w2.heap.size Wx (.slice qx Nx dx) (nk ++ [(qa, qb)])) := by unfold Hid OwnP; rw [← hNx]; exact hop
            have HBpx := hid hbp
            clear hrun hop hbp hNx HLx
            go_upto_region 16 with fail
            go_wp2_with (first | (refine wpList_bsliceP rfl _ rfl #[.int .i64 qa, .int .i64 qb] rfl rfl ?_) | (refine wpList_append_runs rfl _ _ 48 48 rfl (.slice q6 N6 d6) (.slice (some ⟨w4.heap.size, 0, none⟩) 1 1) (.slice qx Nx dx) Wx rfl rfl HRx.out (Hid.out ?_)))
            refine hid ?_
            have HBe := hid (HB6.out.trans HBpx.out)
            go_wp2_with fail
            exact ⟨⟨k + 1, qx, dx, Nx, true, nk ++ [(qa, qb)], by go_num, rfl, rfl, by omega, ⟨HNx.out, by have h := HK.out.2; rw [HDr.out] at h; rw [← h]; (cases dn); (· rw [hpq, tailV_eq, List.append_assoc]; rfl); (· rw [tailV_done, List.append_assoc]; rfl)⟩, HOx.out, HBe.out⟩, by simp [intOf]; omega⟩
        · obtain rfl : k = N3 := by omega
          have HD : Hid (out.drop k = []) := List.drop_eq_nil_of_le (Nat.le_of_eq HN3.out)
          have HPW := hid ((HB6.out.block w1.heap.size (by omega)).trans HP2.out)
          have HBn := hid (HB2.out.trans (HB6.out.mono HB2.out.size))
          cases dn
          · have hnk : nk ++ [(pa, pb)] = insV (pa, pb) out := by have h := HK.out.2; rw [HD.out] at h; exact h
            have HLx : nk.length = N6 := HK.out.1
            obtain ⟨e0, e1⟩ : wr.cell? ⟨w1.heap.size, 0, none⟩ = some (.int .i64 pa) ∧ wr.cell? ⟨w1.heap.size, 1, none⟩ = some (.int .i64 pb) := pr_facts HPW.out
            obtain ⟨vx, Wx, hrun, hop, hbp⟩ := OwnP.push HO6.out HB6.out.size (pa, pb) (by have h := HK.out.2; have h1 := congrArg List.length h; rw [List.length_append] at h1; have h2 := insV_len (pa, pb) out; have := HL0.out; omega)
            obtain ⟨qx, dx, rfl⟩ := OwnP.shape hop
            obtain ⟨Nx, hNx⟩ : ∃ N, (nk ++ [(pa, pb)]).length = N := ⟨_, rfl⟩
            rw [hNx] at hrun
            have HNx := hid hNx
            have HRx := hid hrun
            have HOx : Hid (OwnP w2.heap.size Wx (.slice qx Nx dx) (nk ++ [(pa, pb)])) := by unfold Hid OwnP; rw [← hNx]; exact hop
            have HBpx := hid hbp
            clear hrun hop hbp hNx HLx
            go_upto_region 18 with fail
            go_wp2_with (first | (refine wpList_bsliceP rfl _ rfl #[.int .i64 pa, .int .i64 pb] rfl rfl ?_) | (refine wpList_append_runs rfl _ _ 48 48 rfl (.slice q6 N6 d6) (.slice (some ⟨wr.heap.size, 0, none⟩) 1 1) (.slice qx Nx dx) Wx rfl rfl HRx.out (Hid.out ?_)))
            refine hid ?_
            go_wp2_with fail
            exact ⟨⟨i + 1, qx, dx, Nx, by go_num, by omega, rfl, by unfold Hid; rw [HX.out, ← hnk]; exact HNx.out, by unfold Hid; rw [HX.out, ← hnk]; exact HOx.out.mono (by omega), HBn.out.trans (HBpx.out.mono (by omega))⟩, by simp [intOf]; omega⟩
          · have hnk : nk = insV (pa, pb) out := by have h := HK.out.2; rw [HD.out] at h; simpa [tailV] using h
            go_wp2_with fail
            exact ⟨⟨i + 1, q6, d6, N6, by go_num, by omega, rfl, by unfold Hid; rw [HX.out, ← hnk]; exact HK.out.1, by unfold Hid; rw [HX.out, ← hnk]; exact HO6.out.mono (by omega), HBn.out⟩, by simp [intOf]; omega⟩
    · obtain rfl : i = n := by omega
      have HE : Hid (R.take i = R) := by have h := HN.out; subst h; exact List.take_length
      rw [HE.out] at HO HN3
      have h3 := HN3.out
      subst h3
      clear HN3
      go_wp2_with fail
      go_ret
      exact ⟨q3, d3, rfl, HO.out, HB.out⟩

end Go.Proofs.Ytjcfbnhmljlkpaa
