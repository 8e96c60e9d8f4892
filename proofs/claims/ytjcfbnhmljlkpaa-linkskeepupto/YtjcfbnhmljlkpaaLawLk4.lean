/- The walk of the law LinksCount. -/
import Derived.Test.YtjcfbnhmljlkpaaLawLk3
namespace Go.Proofs.Ytjcfbnhmljlkpaa
open Go.RowKit

/-- how many are on their way on links -/
def sumV (ws : List Wy) : List (Int × Int) → Nat
  | [] => 0
  | p :: r => (onV ws p.1 p.2).length + sumV ws r
def hitV (e : Int × Int) : List (Int × Int) → Nat
  | [] => 0
  | p :: r => (if p = e then 1 else 0) + hitV e r
theorem hit_not {e : Int × Int} : ∀ {ps : List (Int × Int)}, e ∉ ps → hitV e ps = 0
  | [], _ => rfl
  | p :: r, h => by
    simp only [hitV]
    rw [if_neg (fun x => h (by rw [← x]; exact List.mem_cons_self)), hit_not (fun x => h (List.mem_cons_of_mem _ x))]
theorem hit_one {e : Int × Int} : ∀ {ps : List (Int × Int)}, RisV ps → e ∈ ps → hitV e ps = 1
  | p :: r, hr, h => by
    simp only [hitV]
    by_cases hp : p = e
    · rw [if_pos hp, hit_not]
      intro x
      have hb := hr.1 e x
      rw [hp, befV_iff] at hb
      omega
    · rw [if_neg hp, hit_one hr.2 ((List.mem_cons.1 h).resolve_left (fun x => hp x.symm))]
theorem sum_cons (y : Wy) (ws : List Wy) : ∀ ps : List (Int × Int), sumV (y :: ws) ps = sumV ws ps + hitV (y.frm, y.dst) ps
  | [] => rfl
  | p :: r => by
    simp only [sumV, hitV, sum_cons y ws r, onV, isOn, Bool.and_eq_true, decide_eq_true_eq]
    by_cases h : p = (y.frm, y.dst)
    · subst h
      rw [if_pos ⟨rfl, rfl⟩, if_pos rfl]
      simp only [List.length_cons]; omega
    · rw [if_neg (fun x => h (Prod.ext x.1.symm x.2.symm)), if_neg h]
      omega
theorem sum_of {ps : List (Int × Int)} (hr : RisV ps) : ∀ ws : List Wy, (∀ y ∈ ws, (y.frm, y.dst) ∈ ps) → sumV ws ps = ws.length
  | [], _ => by
    have key : ∀ ps : List (Int × Int), sumV [] ps = 0 := fun ps => by
      induction ps with
      | nil => rfl
      | cons p r ih => simp only [sumV, ih, onV]; rfl
    exact key ps
  | y :: ws, h => by
    rw [sum_cons, sum_of hr ws (fun z hz => h z (List.mem_cons_of_mem _ hz)), hit_one hr (h y List.mem_cons_self)]
    rfl
theorem on_mem {ws : List Wy} {y : Wy} (h : y ∈ ws) : onV ws y.frm y.dst ≠ [] := by
  induction ws with
  | nil => cases h
  | cons z ws ih =>
    simp only [onV]
    by_cases hz : isOn y.frm y.dst z = true
    · rw [if_pos hz]; simp
    · rw [if_neg hz]
      rcases List.mem_cons.1 h with rfl | h
      · simp [isOn] at hz
      · exact ih h
theorem sum_all (ws : List Wy) : sumV ws (pairsV ws) = ws.length :=
  sum_of (pairsV_ris ws) ws (fun y hy => (pairsV_mem ws (y.frm, y.dst)).2 (on_mem hy))
theorem sum_take {ws : List Wy} {ps : List (Int × Int)} {i : Nat} (h : i < ps.length) : sumV ws (ps.drop i) = (onV ws ps[i].1 ps[i].2).length + sumV ws (ps.drop (i + 1)) := by
  rw [List.drop_eq_getElem_cons h]; rfl
theorem cut_len (ws : List Wy) (f t : Int) : (cutV ws f t).length = if (onV ws f t).isEmpty = true then ws.length else ws.length - 1 := by
  induction ws with
  | nil => rfl
  | cons y ws ih =>
    by_cases h : isOn f t y = true
    · have e1 : onV (y :: ws) f t = y.x :: onV ws f t := if_pos h
      have e2 : cutV (y :: ws) f t = ws := if_pos h
      simp [e1, e2]
    · have e1 : onV (y :: ws) f t = onV ws f t := if_neg h
      have e2 : cutV (y :: ws) f t = y :: cutV ws f t := if_neg h
      simp only [e1, e2, List.length_cons, ih]
      by_cases he : (onV ws f t).isEmpty = true
      · rw [if_pos he, if_pos he]
      · rw [if_neg he, if_neg he]
        cases ws with
        | nil => simp [onV] at he
        | cons z r => simp
theorem Go1.send {LB : World → Nat → (Nat → Prop) → (Nat → Prop) → List Wy → Prop} (C : LinksIs LB) {w W : World} {b : Nat} {F Rr : Nat → Prop} {ws : List Wy} (h : Go1 LB w W b F Rr ws) (f t : Int) (x : Lt) (ap : Option Addr) (ac : Nat) (rp : Option Addr) (rc : Nat) (hx : LtR All W x ap rp) (hf : FewL x) (hie : IE f t) (hl : ws.length ≤ 100000) :
    Calls Try.prog 14 #[ptr b, .int .i64 f, .int .i64 t, .agg (ltC x ap ac rp rc)] W fun e W' => e = .returned (.tuple #[]) ∧ Hid (∃ F' R', Go1 LB w W' b F' R' (ws ++ [⟨f, t, x⟩]) ∧ Kp F F' Rr R' W W') := by
  refine (C.send h.lb f t x ap ac rp rc hx hf hie hl).mono ?_
  rintro e W' ⟨rfl, hh⟩
  obtain ⟨F', R', h1, h2⟩ := hh.out
  exact ⟨rfl, F', R', h.kp h1 h2, h2⟩
set_option maxHeartbeats 8000000 in
set_option maxRecDepth 100000 in
/-- LinksCount -/
theorem count_any {LB : World → Nat → (Nat → Prop) → (Nat → Prop) → List Wy → Prop} (C : LinksIs LB) (p : Option Addr) (l : List Om) (c : Nat) (w : World) (hG : GivenO w p l) :
    Calls Try.prog 7 #[.slice p l.length c] w fun e w' => e = .returned (.bool true) ∧ Below w.heap.size w w' := by
  have HNew := hid (C.new w)
  have HG := hid hG
  have HAl := hid (fun W => alive_any C W)
  obtain ⟨n, hn⟩ : ∃ n, l.length = n := ⟨_, rfl⟩
  have HN := hid hn
  rw [hn]
  clear hG hn
  go_enter Try.func7, Try.ntmps7
  go_wp2_with fail
  refine HNew.out.mono ?_; rintro e w1 ⟨b, F1, R1, rfl, hh⟩
  obtain ⟨hlb, hlow, hb1⟩ := hh.out
  have HS1 : Hid (Go1 LB w w1 b F1 R1 []) := ⟨hlb, hlow, hb1⟩
  have HFew := hid (few_any p l c w1 (HG.out.below hb1))
  rw [HN.out] at HFew
  clear hh hlb hlow hb1 HNew
  go_wp2_with fail
  refine HFew.out.mono ?_; rintro e w2 ⟨fb, rfl, hh⟩
  have HS2 := hid (HS1.out.below C hh.out.2)
  have HF := hid hh.out.1
  clear hh HFew HS1
  cases fb
  · go_wp2_with fail
    refine (HAl.out w2).mono ?_; rintro e w3 ⟨rfl, hb⟩
    have HB3 := hid (HS2.out.bel.trans (hb.out.mono HS2.out.bel.size))
    clear hb
    go_wp2_with fail
    go_ret
    exact ⟨rfl, HB3.out⟩
  have HFw := hid (HF.out (by trivial))
  have hn200 : n ≤ 200 := by have h := HFw.out.1; rw [HN.out] at h; exact h
  clear HF
  go_wp2_with fail
  go_loopw [4, 27] (fun v4 v27 W => ∃ (i k : Nat) (F Rr : Nat → Prop) (ws : List Wy), v27 = .int .i64 (i : Int) ∧ v4 = .int .i64 (k : Int) ∧ i ≤ n ∧ k ≤ i ∧ Hid (ws.length = k) ∧ Hid (Go1 LB w W b F Rr ws)) (fun _ v27 _ => n - (intOf v27).toNat)
  case atStart => exact ⟨0, 0, F1, R1, [], rfl, rfl, Nat.zero_le _, Nat.le_refl _, rfl, HS2.out⟩
  case round =>
    obtain ⟨i, k, F, Rr, ws, rfl, rfl, hi, hk, HK, HS⟩ := hrel
    by_cases hlt : i < n
    · have hiz : (i : Int) < (n : Int) := by omega
      have hiL : i < l.length := by have := HN.out; omega
      obtain ⟨g, o, rfl, hgl, hc⟩ := (HG.out.below HS.out.bel).facts i hiL
      have HRg := hid (op_range2 hc)
      have HXl := hid (op_low HG.out HS.out.bel i hiL)
      have HXf : Hid (FewL l[i].o.x ∧ IE l[i].o.frm l[i].o.dst) := HFw.out.2 l[i] (List.getElem_mem hiL)
      generalize l[i] = m at *
      clear hc
      obtain ⟨w3, hw3⟩ : ∃ W, (wr.alloc (.cells zeroO 35)).setRow wr.heap.size m.cells = W := ⟨_, rfl⟩
      have HW3 := hid hw3
      have hba : Below wr.heap.size wr w3 := by rw [← hw3]; exact below_setRow (below_alloc wr _) (Nat.le_refl _) _
      have hblk : w3.heap[wr.heap.size]? = some (.cells m.cells 35 (0, 0)) := by rw [← hw3]; exact setRow_heap _ _ _ _ _ _ (heap_alloc_new wr _)
      have z0 : w3.cell? ⟨wr.heap.size, 0, none⟩ = some (.int .i64 m.o.kind) := cell_of_row w3 wr.heap.size 0 _ _ _ hblk
      have z1 : w3.cell? ⟨wr.heap.size, 1, none⟩ = some (.int .i64 m.o.frm) := cell_of_row w3 wr.heap.size 1 _ _ _ hblk
      have z2 : w3.cell? ⟨wr.heap.size, 2, none⟩ = some (.int .i64 m.o.dst) := cell_of_row w3 wr.heap.size 2 _ _ _ hblk
      have HS3 := hid (HS.out.below C hba)
      have hlw : ws.length ≤ 100000 := by have := HK.out; omega
      have HSe := hid (HS3.out.send C m.o.frm m.o.dst m.o.x m.ap m.ac m.rp m.rc (HXl.out.below hba (Nat.le_refl _)).all HXf.out.1 HXf.out.2 hlw)
      have HNx := hid (HS3.out.next C m.o.frm m.o.dst HXf.out.2 hlw)
      obtain ⟨CL, hCL⟩ : ∃ C, ltC m.o.x m.ap m.ac m.rp m.rc = C := ⟨_, rfl⟩
      have hCs : CL.size = 13 := by rw [← hCL]; rfl
      have HRl : Hid (w3.rangeAt wr.heap.size 3 CL.toList) := by rw [← hCL]; exact op_range hblk
      have hiL2 : (Try.prog.info? 33).map (·.size) = some CL.toList.length := by rw [Array.length_toList, hCs]; kernel_rfl
      rw [hCL] at HSe
      obtain ⟨CO, hCO⟩ : ∃ C, m.cells = C := ⟨_, rfl⟩
      have hOs : CO.size = 16 := by rw [← hCO]; rfl
      have hO1 : CO.all (·.oneCell') = true := by rw [← hCO]; exact op_one m
      rw [hCO] at HRg HW3
      have iO := infoOp CO hOs
      have hiO : (Try.prog.info? 35).map (·.size) = some CO.toList.length := by rw [Array.length_toList]; exact iO
      generalize m.o.frm = f at *
      generalize m.o.dst = t at *
      clear hw3 hba hblk HS HXl HXf hCO hCL HS2 hlw
      go_upto_region 7 with fail
      go_wp2_with (first | (refine wpList_load_mid rfl 35 _ rfl g (o + i * 16) rfl _ _ HRg.out Try.underlying35 rfl hiO (Hid.out ?_)))
      rw [Array.toArray_toList]
      refine hid ?_
      go_wp2_with (refine wpList_store_row rfl 35 _ _ rfl wr.heap.size CO rfl rfl 35 zeroO (heap_alloc_new wr _) iO (by rw [hOs]; rfl) hO1 (Hid.out ?_))
      rw [HW3.out]
      refine hid ?_
      by_cases h0 : m.o.kind = 0
      · have hz0 : (m.o.kind == 0) = true := beq_iff_eq.2 h0
        clear h0 HNx
        go_upto_region 9 with fail
        go_wp2_with (first | (refine wpList_load_mid rfl 33 _ rfl wr.heap.size 3 rfl _ _ HRl.out Try.underlying33 rfl hiL2 (Hid.out ?_)))
        rw [Array.toArray_toList]
        refine hid ?_
        go_wp2_with fail
        refine HSe.out.mono ?_; rintro e w4 ⟨rfl, hh⟩
        obtain ⟨F4, R4, h4, -⟩ := hh.out
        have HS4 := hid h4
        clear hh h4 HSe z0 z1 z2
        go_wp2_with fail
        exact ⟨⟨i + 1, k + 1, F4, R4, _, by go_num, by go_num, by omega, by omega, by unfold Hid; rw [List.length_append, HK.out]; rfl, HS4.out⟩, by simp [intOf]; omega⟩
      · have hz0 : (m.o.kind == 0) = false := beq_eq_false_iff_ne.2 h0
        clear h0 HSe
        go_wp2_with fail
        refine HNx.out.mono ?_; rintro e w4 ⟨ap, ac, rp, rc, rfl, hh⟩
        obtain ⟨F4, R4, -, h4⟩ := hh.out
        obtain ⟨CB, hCB⟩ : ∃ C, ltC (headV ws f t) ap ac rp rc = C := ⟨_, rfl⟩
        have hBs : CB.size = 13 := by rw [← hCB]; rfl
        have hB1 : CB.all (·.oneCell') = true := by rw [← hCB]; exact ltC_one _ _ _ _ _
        rw [hCB]
        have iC := infoLt CB hBs
        obtain ⟨w5, hw5⟩ : ∃ W, (w4.alloc (.cells zeroL 33)).setRow w4.heap.size CB = W := ⟨_, rfl⟩
        have HW5 := hid hw5
        have hb5 : Below w4.heap.size w4 w5 := by rw [← hw5]; exact below_setRow (below_alloc w4 _) (Nat.le_refl _) _
        have HS5 := hid (h4.below C hb5)
        have HCu := hid (cut_len ws f t)
        obtain ⟨em, hem⟩ : ∃ x, (onV ws f t).isEmpty = x := ⟨_, rfl⟩
        have HEm := hid hem
        rw [hem] at HCu
        rw [hem]
        clear hh h4 hCB hw5 hb5 HNx z0 z1 z2 HS3 hem
        go_wp2_with (refine wpList_store_row rfl 33 _ _ rfl w4.heap.size CB rfl rfl 33 zeroL (heap_alloc_new w4 _) iC (by rw [hBs]; rfl) hB1 (Hid.out ?_))
        rw [HW5.out]
        refine hid ?_
        cases em
        · have hk1 : 1 ≤ k := by
            have h1 := onV_len ws f t
            have h2 := HK.out
            cases e : onV ws f t with
            | nil => have h3 := HEm.out; rw [e] at h3; cases h3
            | cons y r => rw [e] at h1; simp at h1; omega
          obtain ⟨k', rfl⟩ : ∃ k', k = k' + 1 := ⟨k - 1, by omega⟩
          have hsub : ((k' + 1 : Nat) : Int) - 1 = (k' : Int) := by omega
          go_wp2_with fail
          exact ⟨⟨i + 1, k', F4, R4, _, by go_num, by go_num, by omega, by omega, by unfold Hid; have h := HCu.out; rw [if_neg (by decide), HK.out] at h; exact h, HS5.out⟩, by simp [intOf]; omega⟩
        · go_wp2_with fail
          exact ⟨⟨i + 1, k, F4, R4, _, by go_num, rfl, by omega, by omega, by unfold Hid; have h := HCu.out; rw [if_pos rfl, HK.out] at h; exact h, HS5.out⟩, by simp [intOf]; omega⟩
    · have HPr := hid (C.pairs HS.out.lb (by have := HK.out; omega))
      have HSm := hid (sum_all ws)
      have HPm := hid (fun q => pairsV_mem ws q)
      obtain ⟨ps, hps⟩ : ∃ x, pairsV ws = x := ⟨_, rfl⟩
      rw [hps] at HPr HSm HPm
      obtain ⟨N, hNp⟩ : ∃ x, ps.length = x := ⟨_, rfl⟩
      have HNp := hid hNp
      rw [hNp] at HPr
      have hNz : N ≤ 200 := by
        have h1 := pairsV_len ws
        rw [hps, hNp, HK.out] at h1
        omega
      clear hps hNp HS2
      go_wp2_with fail
      refine HPr.out.mono ?_; rintro e w3 ⟨q, d, rfl, hh⟩
      have HP3 := hid hh.out.1
      have HS3 := hid (HS.out.below C hh.out.2)
      have HKz : Hid (ws.length ≤ 100000) := by unfold Hid; have := HK.out; omega
      have HSum : Hid (sumV ws ps = k) := by unfold Hid; rw [HSm.out]; exact HK.out
      clear hh HPr HS HSm HK
      go_wp2_with fail
      go_loopw [4, 60] (fun v4 v60 W => ∃ (j r : Nat), v60 = .int .i64 (j : Int) ∧ v4 = .int .i64 (r : Int) ∧ j ≤ N ∧ r ≤ 200 ∧ Hid (sumV ws (ps.drop j) = r) ∧ Hid (Go1 LB w W b F Rr ws) ∧ Hid (Below w3.heap.size w3 W)) (fun _ v60 _ => N - (intOf v60).toNat)
      case atStart => exact ⟨0, k, rfl, rfl, Nat.zero_le _, by omega, HSum.out, HS3.out, Below.refl _ _⟩
      case round =>
        obtain ⟨j, r, rfl, rfl, hj, hr, HR, HSj, HBj⟩ := hrel
        by_cases hlj : j < N
        · have hjz : (j : Int) < (N : Int) := by omega
          have hjL : j < ps.length := by have := HNp.out; omega
          obtain ⟨g1, o1, rfl, -, hl1, hc1⟩ := (HP3.out.below HBj.out) (fun e => by rw [e] at hjL; simp at hjL)
          obtain ⟨u0, u1⟩ := hc1 j hjL
          have HTk := hid (sum_take (ws := ws) hjL)
          have HOn : Hid (onV ws ps[j].1 ps[j].2 ≠ []) := (HPm.out ps[j]).1 (List.getElem_mem hjL)
          obtain ⟨pa, hpa⟩ : ∃ x, ps[j].1 = x := ⟨_, rfl⟩
          obtain ⟨pb, hpb⟩ : ∃ x, ps[j].2 = x := ⟨_, rfl⟩
          rw [hpa] at u0
          rw [hpb] at u1
          rw [hpa, hpb] at HTk HOn
          have hs1 : ((wr.alloc (.cells (prC (pa, pb)) 41)).heap.size = wr.heap.size + 1) := by simp
          have HS4 := hid (HSj.out.below C (below_alloc wr (.cells (prC (pa, pb)) 41)))
          have HB4 := hid (HBj.out.trans ((below_alloc wr (.cells (prC (pa, pb)) 41)).mono HBj.out.size))
          have HWt := hid (C.waiting HS4.out.lb pa pb (C.ends HS4.out.lb pa pb HOn.out) HKz.out)
          obtain ⟨m1, hm1⟩ : ∃ x, (onV ws pa pb).length = x := ⟨_, rfl⟩
          rw [hm1] at HWt HTk
          have hm0 : 1 ≤ m1 := by
            rw [← hm1]
            exact List.length_pos_iff.2 HOn.out
          have hr2 : r = m1 + sumV ws (ps.drop (j + 1)) := by rw [← HR.out, HTk.out]
          obtain ⟨r', hr'⟩ : ∃ x, sumV ws (ps.drop (j + 1)) = x := ⟨_, rfl⟩
          rw [hr'] at hr2
          have HR' := hid hr'
          have hmz : ¬ (m1 : Int) < 1 := by omega
          have hsub : (r : Int) - (m1 : Int) = (r' : Int) := by omega
          have hmb : (m1 : Int) ≤ 200 := by omega
          have hrb : (r' : Int) ≤ 200 := by omega
          have Hr2 := hid hr2
          clear hc1 hpa hpb hm1 hr2 hr' HSj HBj hs1
          go_wp2_with fail
          refine HWt.out.mono ?_; rintro e w5 ⟨rfl, hb5⟩
          have HS5 := hid (HS4.out.below C hb5.out)
          have HB5 := hid (HB4.out.trans (hb5.out.mono HB4.out.size))
          clear hb5 HWt HS4 HB4 u0 u1
          go_wp2_with fail
          exact ⟨⟨j + 1, r', by go_num, by go_num, by omega, by have := Hr2.out; omega, HR'.out, HS5.out, HB5.out⟩, by simp [intOf]; omega⟩
        · have HR0 : Hid (r = 0) := by
            have h := HR.out
            rw [List.drop_eq_nil_of_le (by have := HNp.out; omega)] at h
            exact h.symm
          obtain rfl : r = 0 := HR0.out
          clear HR0
          go_wp2_with fail
          refine (HAl.out wr).mono ?_; rintro e w6 ⟨rfl, hb⟩
          have HB6 := hid (HSj.out.bel.trans (hb.out.mono HSj.out.bel.size))
          clear hb
          go_wp2_with fail
          go_ret
          exact ⟨rfl, HB6.out⟩

end Go.Proofs.Ytjcfbnhmljlkpaa
