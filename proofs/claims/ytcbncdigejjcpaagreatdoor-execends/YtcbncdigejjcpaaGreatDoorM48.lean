/- XW, XV1, XV2, XV3, XV0, YF, YC, YB. -/
import Derived.Deep.DeepCutAuto
import Derived.Test.YtcbncdigejjcpaaGreatDoorM44
import Derived.Test.YtcbncdigejjcpaaGreatDoorM17
import Derived.Test.YtcbncdigejjcpaaGreatDoorM47
namespace Go.Proofs.YtcbncdigejjcpaaGreatDoor.Ex
open Re (Rep)
open Go.RowKit

theorem chk_err : ∀ (a : Row), (Tb.chk a).2 = 0 ∨ (Tb.chk a).2 = 120 ∨ (Tb.chk a).2 = 121
  | [] => .inr (.inl rfl)
  | n :: r => by
    show (if Tb.known (Tb.great n) then (if Tb.fitsM (Tb.spec (Tb.great n)) ((n :: r).length : Int) then (Tb.spec (Tb.great n), 0) else (Tb.zeroSp, 121)) else (Tb.zeroSp, 120)).2 = (0 : Int) ∨ (if Tb.known (Tb.great n) then (if Tb.fitsM (Tb.spec (Tb.great n)) ((n :: r).length : Int) then (Tb.spec (Tb.great n), 0) else (Tb.zeroSp, 121)) else (Tb.zeroSp, 120)).2 = (120 : Int) ∨ (if Tb.known (Tb.great n) then (if Tb.fitsM (Tb.spec (Tb.great n)) ((n :: r).length : Int) then (Tb.spec (Tb.great n), 0) else (Tb.zeroSp, 121)) else (Tb.zeroSp, 120)).2 = (121 : Int)
    cases Tb.known (Tb.great n)
    · exact .inr (.inl rfl)
    · cases Tb.fitsM (Tb.spec (Tb.great n)) ((n :: r).length : Int)
      · exact .inr (.inr rfl)
      · exact .inl rfl
theorem chk_ne {a : Row} (h : (Tb.chk a).2 = 0) : a ≠ [] := fun e => by rw [e] at h; cases h
theorem rd_tail {w : World} {g o c : Nat} {a : Row} (h : Rd w (some ⟨g, o, none⟩) c a) (hne : a ≠ []) : Rd w (if c = 1 then some ⟨g, o, none⟩ else some ⟨g, o + 1, none⟩) (c - 1) (a.drop 1) := by
  have hp := List.length_pos_iff.2 hne
  have hc := h.cap
  refine ⟨fun hd => ?_, fun hn => ?_, by rw [List.length_drop]; omega⟩
  · have hl : 0 < (a.drop 1).length := List.length_pos_iff.2 hd
    rw [List.length_drop] at hl
    rw [if_neg (by omega)]
    obtain ⟨g', o', e, hcell⟩ := h.strs hne
    injection e with e
    injection e with e1 e2 _
    subst e1 e2
    refine ⟨g, o + 1, rfl, fun i hi => ?_⟩
    rw [List.length_drop] at hi
    have := hcell (i + 1) (by omega)
    rw [show o + 1 + i = o + (i + 1) by omega, this]
    simp
  · split at hn <;> cases hn
theorem cut9 (w3 : World) (b : Nat) (nm : Nm) (A2 : Option Addr) (n c : Nat) (N m : Nat) (hm : w3.heap.size = m) (h : N ≤ m) : ∃ cb, Value.pointer (some ⟨m, 0, none⟩) = pt cb ∧ N ≤ cb ∧ Hid ((w3.alloc (cob b nm A2 n c)).drew.heap[cb]? = some (cob b nm A2 n c)) ∧ Hid (Below w3.heap.size w3 (w3.alloc (cob b nm A2 n c)).drew) := by
  subst hm
  exact ⟨w3.heap.size, rfl, h, heap_alloc_new w3 _, (below_alloc w3 _).drew⟩
set_option maxHeartbeats 8000000 in
set_option maxRecDepth 100000 in
theorem do_walk (a : Row) (M : Int → Int → List EP → List EP × Rep) (hA : (Tb.chk a).2 = 0 → Ans 28 (Tb.chk a).1.nm (a.drop 1) M) (B : Nat) (w : World) (b : Nat) (O A : Nat → Prop) (L : List EP) (room now : Int) (hS : Sp B w b O A L room now) (p : Option Addr) (c : Nat) (t : Int) (hR : Rd w p c a) (hO : a ≠ [] → ∀ q, p = some q → ¬ O q.block) (hl : a.length ≤ 64) (hT : ∀ x ∈ a, x.length ≤ 140737488351232) :
    Calls Tryz.prog 12 #[pt b, .slice p a.length c, .int .i64 t] w fun e w' => ∃ v, e = .returned v ∧ Hid (Post B (fun k => w.heap.size ≤ k) w b O A room (tickN now t) (if (Tb.chk a).2 = 120 then (tickL (tickN now t) L, fault fUnknown) else if (Tb.chk a).2 ≠ 0 then (tickL (tickN now t) L, fault fArity) else M room (tickN now t) (tickL (tickN now t) L)).1 (if (Tb.chk a).2 = 120 then (tickL (tickN now t) L, fault fUnknown) else if (Tb.chk a).2 ≠ 0 then (tickL (tickN now t) L, fault fArity) else M room (tickN now t) (tickL (tickN now t) L)).2 w' v) := by
  have HA := hid (below_alloc w rob0)
  have HZ0 := hid (heap_alloc_new w rob0)
  have hs0 : (w.alloc rob0).heap.size = w.heap.size + 1 := by simp
  have HS := hid hS
  have HTk := hid (sp_tick (hS.below HA.out) t)
  have HCk := hid (fun (W : World) (h : Rd W p c a) => Tb.check_any p c a W h (by omega) (fun x hx => Nat.le_trans (hT x hx) (by decide)))
  have HR := hid hR
  have HT := hid hT
  have HO := hid hO
  have HAn := hid hA
  have hce := chk_err a
  obtain ⟨n, hn⟩ : ∃ n, n = tickN now t := ⟨_, rfl⟩
  rw [← hn] at HTk ⊢
  obtain ⟨T, hT'⟩ : ∃ T, T = tickL n L := ⟨_, rfl⟩
  rw [← hT'] at HTk ⊢
  have hne := fun h => chk_ne (a := a) h
  obtain ⟨S, hSS⟩ : ∃ S, S = (Tb.chk a).1 := ⟨_, rfl⟩
  obtain ⟨E, hEE⟩ : ∃ E, E = (Tb.chk a).2 := ⟨_, rfl⟩
  rw [← hSS, ← hEE] at HCk
  rw [← hEE, ← hSS] at HAn
  rw [← hEE] at hce hne ⊢
  have Hne := hid hne
  obtain ⟨C, hC⟩ : ∃ C, C = (if E = 120 then (T, fault fUnknown) else if E ≠ 0 then (T, fault fArity) else M room n T) := ⟨_, rfl⟩
  rw [← hC]
  have HC := hid hC
  clear hC hS hR hT hO hA hn hT' hSS hEE hne
  obtain ⟨nm, s1, s2, s3, s4, s5, s6⟩ := S
  simp only [Tb.Sp.cs] at HCk HAn
  go_enter Tryz.func12, Tryz.ntmps12
  go_wp2_with fail
  refine HTk.out.mono ?_; rintro e w1 ⟨rfl, hh⟩
  obtain ⟨O1, A1, h1, h2⟩ := hh.out
  have hs1 : w.heap.size + 1 ≤ w1.heap.size := by have := h2.keep.size; omega
  have HS1 := hid h1
  have HT1 := hid h2
  have HZ1 := hid ((own_block' HS.out h2 w.heap.size (Nat.le_refl _) (by omega)).trans HZ0.out)
  have HNO : Hid (¬ A1 w.heap.size) := fun ha => by
    rcases h2.a _ ha with h' | h'
    · have := (HS.out.lt _ h').2; omega
    · omega
  have HR1 : Hid (Rd w1 p c a) := by
    refine ⟨fun hne => ?_, HR.out.nil, HR.out.cap⟩
    obtain ⟨g, o, rfl, hc⟩ := HR.out.strs hne
    exact ⟨g, o, rfl, fun i hi => cell_turn (hc i hi) ((h2.keep.block g (by have : g < w.heap.size := block_lt_of_cell (hc i hi); omega) (HO.out hne _ rfl)).trans (HA.out.block g (block_lt_of_cell (hc i hi))))⟩
  have HO1 : Hid (a ≠ [] → ∀ q, p = some q → ¬ O1 q.block) := fun hne q hq ho => by
    rcases h2.o _ ho with h' | h'
    · exact HO.out hne q hq h'
    · obtain ⟨g, o, e, hc⟩ := HR.out.strs hne
      rw [hq] at e
      injection e with e
      subst e
      have : g < w.heap.size := block_lt_of_cell (hc 0 (List.length_pos_iff.2 hne))
      have h'' : (w.alloc rob0).heap.size ≤ g := h'
      omega
  have HC1 := hid (HCk.out w1 HR1.out)
  clear hh h1 h2 HTk HCk
  go_wp2_with fail
  refine HC1.out.mono ?_; rintro e w2 ⟨rfl, hb⟩
  have hba := below_alloc w2 (.cells #[txt nm, .int .i64 s1, .int .i64 s2, .int .i64 s3, .int .i64 s4, .int .i64 s5, .bool s6] 37)
  have HSp := hid (heap_alloc_new w2 (.cells #[txt nm, .int .i64 s1, .int .i64 s2, .int .i64 s3, .int .i64 s4, .int .i64 s5, .bool s6] 37))
  have HB2 := hid (hb.out.trans (hba.mono hb.out.size))
  have hs2 := hb.out.size
  have hs3 : (w2.alloc (.cells #[txt nm, .int .i64 s1, .int .i64 s2, .int .i64 s3, .int .i64 s4, .int .i64 s5, .bool s6] 37)).heap.size = w2.heap.size + 1 := by simp
  have HZ2 := hid ((HB2.out.block w.heap.size (by omega)).trans HZ1.out)
  clear hb hba HC1
  have fin : ∀ (f : Nm) (w4 : World), f.length ≤ 1000 → Below w1.heap.size w1 w4 → Hid (Post B (fun k => w.heap.size ≤ k) w b O A room n T (fault f) (w4.setRow w.heap.size #[.int .i64 (fault f).kind, .int .i64 (fault f).int, txt (fault f).text, .slice none (fault f).list.length 0]) (rval (fault f) none 0)) := fun f w4 hf hb => by
    have hk := keep_row w4 w.heap.size #[.int .i64 (fault f).kind, .int .i64 (fault f).int, txt (fault f).text, .slice none (fault f).list.length 0]
    refine ⟨O1, A1, (HS1.out.below hb).turn (hk.mono (fun j hj e => ?_)), ?_, rp_flat (fit_fault (by omega)).1 (fit_fault (by omega)).2⟩
    · subst e
      rcases hj with hj | hj
      · have := HS.out.base; omega
      · exact HNO.out hj
    · have hst := ((Stp.below HA.out O A).trans HT1.out).trans (Stp.below hb O1 A1)
      exact ⟨⟨hk.os.trans hst.keep.os, hk.tape.trans hst.keep.tape, hk.output.trans hst.keep.output, Nat.le_trans hst.keep.size hk.size, fun j hj ho => (hk.block j (Nat.lt_of_lt_of_le hj hst.keep.size) (by show j ≠ _; omega)).trans (hst.keep.block j hj ho)⟩, hst.o, hst.a⟩
  have HFin := hid fin
  clear fin
  rcases hce with rfl | rfl | rfl
  · replace HC := hid (show C = M room n T by rw [HC.out, if_neg (by decide), if_neg (by decide)])
    have hne := Hne.out rfl
    have HAn2 := hid (HAn.out rfl)
    clear HAn Hne
    obtain ⟨g, o, rfl, hc⟩ := HR1.out.strs hne
    have hp : 0 < a.length := List.length_pos_iff.2 hne
    have hcp : a.length ≤ c := HR1.out.cap
    have hpz : (1 : Int) ≤ (a.length : Int) := by omega
    have HTl := hid (rd_tail HR1.out hne)
    have HO2 : Hid (∀ q, some (⟨g, o, none⟩ : Addr) = some q → ¬ O1 q.block) := HO1.out hne
    clear hc hne
    obtain ⟨A2, hA2⟩ : ∃ A2 : Option Addr, (if c = 1 then some (⟨g, o, none⟩ : Addr) else some ⟨g, o + 1, none⟩) = A2 := ⟨_, rfl⟩
    rw [hA2] at HTl
    have HA2 : Hid (∀ q, A2 = some q → ¬ O1 q.block) := fun q hq => by
      rw [← hA2] at hq
      split at hq
      · exact HO2.out q hq
      · injection hq with hq; subst hq; exact HO2.out ⟨g, o, none⟩ rfl
    obtain ⟨sp0, -⟩ : (w2.alloc (.cells #[txt nm, .int .i64 s1, .int .i64 s2, .int .i64 s3, .int .i64 s4, .int .i64 s5, .bool s6] 37)).cell? ⟨w2.heap.size, 0, none⟩ = some (txt nm) ∧ True := ⟨cell_of_row _ _ 0 _ _ _ HSp.out, trivial⟩
    go_wp2_with fail
    generalize (w2.alloc (.cells #[txt nm, .int .i64 s1, .int .i64 s2, .int .i64 s3, .int .i64 s4, .int .i64 s5, .bool s6] 37)) = w3 at *
    have sp1 : w3.drew.cell? ⟨w2.heap.size, 0, none⟩ = some (txt nm) := sp0
    go_cut [9] (fun c9 wx => ∃ cb, c9 = pt cb ∧ w.heap.size + 1 ≤ cb ∧ Hid (wx.heap[cb]? = some (cob b nm A2 (a.length - 1) (c - 1))) ∧ Hid (Below w3.heap.size w3 wx))
    case first =>
      go_region
      all_goals
        go_wp2_with fail
        go_meet
        exact cut9 w3 b nm A2 (a.length - 1) (c - 1) (w.heap.size + 1) (w2.heap.size + 1) hs3 (by omega)
    case rest =>
    obtain ⟨cb, rfl, hcb, HCb, HB4⟩ := hcut
    generalize wc = w4 at *
    have hs4 := HB4.out.size
    have hcl : cb < w4.heap.size := (Array.getElem?_eq_some_iff.1 HCb.out).1
    have HB14 := hid (HB2.out.trans (HB4.out.mono HB2.out.size))
    have HZ4 := hid ((HB4.out.block w.heap.size (by omega)).trans HZ2.out)
    have hdl : (a.drop 1).length = a.length - 1 := List.length_drop
    have HCall := hid (HAn2.out B w4 b O1 A1 T room n (HS1.out.below HB14.out) A2 (c - 1) (HTl.out.below HB14.out) (fun x hx => HT.out x (List.mem_of_mem_drop hx)) (by rw [hdl]; omega) (fun _ => HA2.out))
    rw [hdl, ← HC.out] at HCall
    obtain ⟨x0, x1, x2⟩ := call_facts HCb.out
    clear sp0 sp1 hdl HAn2
    go_wp2_with fail
    refine HCall.out.mono ?_; rintro e w5 ⟨q, d, rfl, hh⟩
    have HH := hid hh.out
    have HZ5 := hid ((show w5.heap[w.heap.size]? = w4.heap[w.heap.size]? by
      obtain ⟨O', A', _, h2, _⟩ := HH.out.ex
      exact h2.keep.block _ (by omega) (fun ho => HNO.out (HS1.out.sub _ ho))).trans HZ4.out)
    clear hh HCall
    go_wp2_with (refine wpList_store_row rfl 32 _ _ rfl w.heap.size #[.int .i64 C.2.kind, .int .i64 C.2.int, txt C.2.text, .slice q C.2.list.length d] rfl rfl 32 _ HZ5.out (Re.infoRep _ _ _ _) rfl (one_r _ _ _) ?_)
    refine bodyPost_ret (v := rval C.2 q d) ?_ rfl ?_
    · exact Re.ret_rep1 rfl rfl (setRow_heap w5 _ _ _ _ _ HZ5.out)
    · obtain ⟨O5, A5, h1, h2, h3⟩ := HH.out.ex
      have hk := keep_row w5 w.heap.size #[.int .i64 C.2.kind, .int .i64 C.2.int, txt C.2.text, .slice q C.2.list.length d]
      have hno : ¬ A5 w.heap.size := fun ha => by
        rcases h2.a _ ha with h' | h'
        · exact HNO.out h'
        · omega
      have hst := (((Stp.below HA.out O A).trans HT1.out).trans (Stp.below HB14.out O1 A1)).trans h2
      refine ⟨_, rfl, O5, A5, h1.turn (hk.mono (fun j hj e => ?_)), ⟨⟨hk.os.trans hst.keep.os, hk.tape.trans hst.keep.tape, hk.output.trans hst.keep.output, Nat.le_trans hst.keep.size hk.size, fun j hj ho => (hk.block j (Nat.lt_of_lt_of_le hj hst.keep.size) (by show j ≠ _; omega)).trans (hst.keep.block j hj ho)⟩, hst.o, hst.a⟩, h3.turn (fun j hj hl => ⟨⟨by omega, hj.2⟩, hk.block j hl (by show j ≠ _; omega)⟩) (Nat.le_refl _)⟩
      subst e
      rcases hj with hj | hj
      · have := HS.out.base; omega
      · exact hno hj
  · obtain rfl : C = (T, fault fUnknown) := by rw [HC.out, if_pos rfl]
    have HW := hid (wrong_any fUnknown (w2.alloc (.cells #[txt nm, .int .i64 s1, .int .i64 s2, .int .i64 s3, .int .i64 s4, .int .i64 s5, .bool s6] 37)))
    go_wp2_with fail
    refine HW.out.mono ?_; rintro e w4 ⟨rfl, hb⟩
    have HB4 := hid (HB2.out.trans (hb.out.mono HB2.out.size))
    have HZ4 := hid ((hb.out.block w.heap.size (by omega)).trans HZ2.out)
    clear hb
    go_wp2_with (refine wpList_store_row rfl 32 _ _ rfl w.heap.size #[.int .i64 (fault fUnknown).kind, .int .i64 (fault fUnknown).int, txt (fault fUnknown).text, .slice none (fault fUnknown).list.length 0] rfl rfl 32 _ HZ4.out (Re.infoRep _ _ _ _) rfl (one_r _ _ _) ?_)
    refine bodyPost_ret (v := rval (fault fUnknown) none 0) ?_ rfl ?_
    · exact Re.ret_rep1 rfl rfl (setRow_heap w4 _ _ _ _ _ HZ4.out)
    · exact ⟨_, rfl, HFin.out fUnknown w4 (by decide) HB4.out⟩
  · obtain rfl : C = (T, fault fArity) := by rw [HC.out, if_neg (by decide), if_pos (by decide)]
    have HW := hid (wrong_any fArity (w2.alloc (.cells #[txt nm, .int .i64 s1, .int .i64 s2, .int .i64 s3, .int .i64 s4, .int .i64 s5, .bool s6] 37)))
    go_wp2_with fail
    refine HW.out.mono ?_; rintro e w4 ⟨rfl, hb⟩
    have HB4 := hid (HB2.out.trans (hb.out.mono HB2.out.size))
    have HZ4 := hid ((hb.out.block w.heap.size (by omega)).trans HZ2.out)
    clear hb
    go_wp2_with (refine wpList_store_row rfl 32 _ _ rfl w.heap.size #[.int .i64 (fault fArity).kind, .int .i64 (fault fArity).int, txt (fault fArity).text, .slice none (fault fArity).list.length 0] rfl rfl 32 _ HZ4.out (Re.infoRep _ _ _ _) rfl (one_r _ _ _) ?_)
    refine bodyPost_ret (v := rval (fault fArity) none 0) ?_ rfl ?_
    · exact Re.ret_rep1 rfl rfl (setRow_heap w4 _ _ _ _ _ HZ4.out)
    · exact ⟨_, rfl, HFin.out fArity w4 (by decide) HB4.out⟩

end Go.Proofs.YtcbncdigejjcpaaGreatDoor.Ex

namespace Go.Proofs.YtcbncdigejjcpaaGreatDoor.Ex
open Re (Rep)
open Go.RowKit

set_option maxHeartbeats 8000000 in
set_option maxRecDepth 100000 in
theorem vLPOP {t : Row} {M : Int → Int → List EP → List EP × Rep} (hI : Ans 45 cLPOP t M) : Ans 28 cLPOP t M := by
  intro B w b O A L room now hS p c hR hT hlen hO
  have HA := hid (al_two w (cob b cLPOP p t.length c) rob0)
  have HI := hid (hI B _ b O A L room now (hS.below HA.out.1) p c (hR.below HA.out.1) hT hlen hO)
  have HS := hid hS
  generalize M room now L = C at *
  generalize t.length = n at *
  clear hS hR hT hlen hO hI
  go_enter Tryz.func28, Tryz.ntmps28
  go_wp2_with fail
  refine HI.out.mono ?_; rintro e w1 ⟨q, d, rfl, hh⟩
  have hs0 := HA.out.2.2.2
  have HH := hid hh.out
  have HZ1 := hid ((show w1.heap[w.heap.size + 1]? = _ by
    obtain ⟨O', A', _, h2, _⟩ := HH.out.ex
    exact own_block' HS.out h2 (w.heap.size + 1) (by omega) (by omega)).trans HA.out.2.2.1)
  clear hh HI
  go_wp2_with (refine wpList_store_row rfl 32 _ _ rfl (w.heap.size + 1) #[.int .i64 C.2.kind, .int .i64 C.2.int, txt C.2.text, .slice q C.2.list.length d] rfl rfl 32 _ HZ1.out (Re.infoRep _ _ _ _) rfl (one_r _ _ _) ?_)
  refine bodyPost_ret (v := rval C.2 q d) ?_ rfl ?_
  · exact Re.ret_rep1 rfl rfl (setRow_heap w1 _ _ _ _ _ HZ1.out)
  · exact ⟨q, d, rfl, Post.set HH.out HS.out HA.out.1 (w.heap.size + 1) (by omega) (by omega) (fun j hj => ⟨by omega, by omega⟩) (keep_row _ _ _)⟩
set_option maxHeartbeats 8000000 in
set_option maxRecDepth 100000 in
theorem vLRANGE {t : Row} {M : Int → Int → List EP → List EP × Rep} (hI : Ans 46 cLRANGE t M) : Ans 28 cLRANGE t M := by
  intro B w b O A L room now hS p c hR hT hlen hO
  have HA := hid (al_two w (cob b cLRANGE p t.length c) rob0)
  have HI := hid (hI B _ b O A L room now (hS.below HA.out.1) p c (hR.below HA.out.1) hT hlen hO)
  have HS := hid hS
  generalize M room now L = C at *
  generalize t.length = n at *
  clear hS hR hT hlen hO hI
  go_enter Tryz.func28, Tryz.ntmps28
  go_wp2_with fail
  refine HI.out.mono ?_; rintro e w1 ⟨q, d, rfl, hh⟩
  have hs0 := HA.out.2.2.2
  have HH := hid hh.out
  have HZ1 := hid ((show w1.heap[w.heap.size + 1]? = _ by
    obtain ⟨O', A', _, h2, _⟩ := HH.out.ex
    exact own_block' HS.out h2 (w.heap.size + 1) (by omega) (by omega)).trans HA.out.2.2.1)
  clear hh HI
  go_wp2_with (refine wpList_store_row rfl 32 _ _ rfl (w.heap.size + 1) #[.int .i64 C.2.kind, .int .i64 C.2.int, txt C.2.text, .slice q C.2.list.length d] rfl rfl 32 _ HZ1.out (Re.infoRep _ _ _ _) rfl (one_r _ _ _) ?_)
  refine bodyPost_ret (v := rval C.2 q d) ?_ rfl ?_
  · exact Re.ret_rep1 rfl rfl (setRow_heap w1 _ _ _ _ _ HZ1.out)
  · exact ⟨q, d, rfl, Post.set HH.out HS.out HA.out.1 (w.heap.size + 1) (by omega) (by omega) (fun j hj => ⟨by omega, by omega⟩) (keep_row _ _ _)⟩
end Go.Proofs.YtcbncdigejjcpaaGreatDoor.Ex

namespace Go.Proofs.YtcbncdigejjcpaaGreatDoor.Ex
open Re (Rep)
open Go.RowKit

set_option maxHeartbeats 8000000 in
set_option maxRecDepth 100000 in
theorem vSDIFF {t : Row} {M : Int → Int → List EP → List EP × Rep} (hI : Ans 48 cSDIFF t M) : Ans 28 cSDIFF t M := by
  intro B w b O A L room now hS p c hR hT hlen hO
  have HA := hid (al_two w (cob b cSDIFF p t.length c) rob0)
  have HI := hid (hI B _ b O A L room now (hS.below HA.out.1) p c (hR.below HA.out.1) hT hlen hO)
  have HS := hid hS
  generalize M room now L = C at *
  generalize t.length = n at *
  clear hS hR hT hlen hO hI
  go_enter Tryz.func28, Tryz.ntmps28
  go_wp2_with fail
  refine HI.out.mono ?_; rintro e w1 ⟨q, d, rfl, hh⟩
  have hs0 := HA.out.2.2.2
  have HH := hid hh.out
  have HZ1 := hid ((show w1.heap[w.heap.size + 1]? = _ by
    obtain ⟨O', A', _, h2, _⟩ := HH.out.ex
    exact own_block' HS.out h2 (w.heap.size + 1) (by omega) (by omega)).trans HA.out.2.2.1)
  clear hh HI
  go_wp2_with (refine wpList_store_row rfl 32 _ _ rfl (w.heap.size + 1) #[.int .i64 C.2.kind, .int .i64 C.2.int, txt C.2.text, .slice q C.2.list.length d] rfl rfl 32 _ HZ1.out (Re.infoRep _ _ _ _) rfl (one_r _ _ _) ?_)
  refine bodyPost_ret (v := rval C.2 q d) ?_ rfl ?_
  · exact Re.ret_rep1 rfl rfl (setRow_heap w1 _ _ _ _ _ HZ1.out)
  · exact ⟨q, d, rfl, Post.set HH.out HS.out HA.out.1 (w.heap.size + 1) (by omega) (by omega) (fun j hj => ⟨by omega, by omega⟩) (keep_row _ _ _)⟩
set_option maxHeartbeats 8000000 in
set_option maxRecDepth 100000 in
theorem vSET {t : Row} {M : Int → Int → List EP → List EP × Rep} (hI : Ans 50 cSET t M) : Ans 28 cSET t M := by
  intro B w b O A L room now hS p c hR hT hlen hO
  have HA := hid (al_two w (cob b cSET p t.length c) rob0)
  have HI := hid (hI B _ b O A L room now (hS.below HA.out.1) p c (hR.below HA.out.1) hT hlen hO)
  have HS := hid hS
  generalize M room now L = C at *
  generalize t.length = n at *
  clear hS hR hT hlen hO hI
  go_enter Tryz.func28, Tryz.ntmps28
  go_wp2_with fail
  refine HI.out.mono ?_; rintro e w1 ⟨q, d, rfl, hh⟩
  have hs0 := HA.out.2.2.2
  have HH := hid hh.out
  have HZ1 := hid ((show w1.heap[w.heap.size + 1]? = _ by
    obtain ⟨O', A', _, h2, _⟩ := HH.out.ex
    exact own_block' HS.out h2 (w.heap.size + 1) (by omega) (by omega)).trans HA.out.2.2.1)
  clear hh HI
  go_wp2_with (refine wpList_store_row rfl 32 _ _ rfl (w.heap.size + 1) #[.int .i64 C.2.kind, .int .i64 C.2.int, txt C.2.text, .slice q C.2.list.length d] rfl rfl 32 _ HZ1.out (Re.infoRep _ _ _ _) rfl (one_r _ _ _) ?_)
  refine bodyPost_ret (v := rval C.2 q d) ?_ rfl ?_
  · exact Re.ret_rep1 rfl rfl (setRow_heap w1 _ _ _ _ _ HZ1.out)
  · exact ⟨q, d, rfl, Post.set HH.out HS.out HA.out.1 (w.heap.size + 1) (by omega) (by omega) (fun j hj => ⟨by omega, by omega⟩) (keep_row _ _ _)⟩
set_option maxHeartbeats 8000000 in
set_option maxRecDepth 100000 in
theorem vEXPIRE {t : Row} {M : Int → Int → List EP → List EP × Rep} (hI : Ans 51 cEXPIRE t M) : Ans 28 cEXPIRE t M := by
  intro B w b O A L room now hS p c hR hT hlen hO
  have HA := hid (al_two w (cob b cEXPIRE p t.length c) rob0)
  have HI := hid (hI B _ b O A L room now (hS.below HA.out.1) p c (hR.below HA.out.1) hT hlen hO)
  have HS := hid hS
  generalize M room now L = C at *
  generalize t.length = n at *
  clear hS hR hT hlen hO hI
  go_enter Tryz.func28, Tryz.ntmps28
  go_wp2_with fail
  refine HI.out.mono ?_; rintro e w1 ⟨q, d, rfl, hh⟩
  have hs0 := HA.out.2.2.2
  have HH := hid hh.out
  have HZ1 := hid ((show w1.heap[w.heap.size + 1]? = _ by
    obtain ⟨O', A', _, h2, _⟩ := HH.out.ex
    exact own_block' HS.out h2 (w.heap.size + 1) (by omega) (by omega)).trans HA.out.2.2.1)
  clear hh HI
  go_wp2_with (refine wpList_store_row rfl 32 _ _ rfl (w.heap.size + 1) #[.int .i64 C.2.kind, .int .i64 C.2.int, txt C.2.text, .slice q C.2.list.length d] rfl rfl 32 _ HZ1.out (Re.infoRep _ _ _ _) rfl (one_r _ _ _) ?_)
  refine bodyPost_ret (v := rval C.2 q d) ?_ rfl ?_
  · exact Re.ret_rep1 rfl rfl (setRow_heap w1 _ _ _ _ _ HZ1.out)
  · exact ⟨q, d, rfl, Post.set HH.out HS.out HA.out.1 (w.heap.size + 1) (by omega) (by omega) (fun j hj => ⟨by omega, by omega⟩) (keep_row _ _ _)⟩

end Go.Proofs.YtcbncdigejjcpaaGreatDoor.Ex

namespace Go.Proofs.YtcbncdigejjcpaaGreatDoor.Ex
open Re (Rep)
open Go.RowKit

set_option maxHeartbeats 8000000 in
set_option maxRecDepth 100000 in
theorem vTTL {t : Row} {M : Int → Int → List EP → List EP × Rep} (hI : Ans 51 cTTL t M) : Ans 28 cTTL t M := by
  intro B w b O A L room now hS p c hR hT hlen hO
  have HA := hid (al_two w (cob b cTTL p t.length c) rob0)
  have HI := hid (hI B _ b O A L room now (hS.below HA.out.1) p c (hR.below HA.out.1) hT hlen hO)
  have HS := hid hS
  generalize M room now L = C at *
  generalize t.length = n at *
  clear hS hR hT hlen hO hI
  go_enter Tryz.func28, Tryz.ntmps28
  go_wp2_with fail
  refine HI.out.mono ?_; rintro e w1 ⟨q, d, rfl, hh⟩
  have hs0 := HA.out.2.2.2
  have HH := hid hh.out
  have HZ1 := hid ((show w1.heap[w.heap.size + 1]? = _ by
    obtain ⟨O', A', _, h2, _⟩ := HH.out.ex
    exact own_block' HS.out h2 (w.heap.size + 1) (by omega) (by omega)).trans HA.out.2.2.1)
  clear hh HI
  go_wp2_with (refine wpList_store_row rfl 32 _ _ rfl (w.heap.size + 1) #[.int .i64 C.2.kind, .int .i64 C.2.int, txt C.2.text, .slice q C.2.list.length d] rfl rfl 32 _ HZ1.out (Re.infoRep _ _ _ _) rfl (one_r _ _ _) ?_)
  refine bodyPost_ret (v := rval C.2 q d) ?_ rfl ?_
  · exact Re.ret_rep1 rfl rfl (setRow_heap w1 _ _ _ _ _ HZ1.out)
  · exact ⟨q, d, rfl, Post.set HH.out HS.out HA.out.1 (w.heap.size + 1) (by omega) (by omega) (fun j hj => ⟨by omega, by omega⟩) (keep_row _ _ _)⟩
set_option maxHeartbeats 8000000 in
set_option maxRecDepth 100000 in
theorem vEXISTS {t : Row} {M : Int → Int → List EP → List EP × Rep} (hI : Ans 53 cEXISTS t M) : Ans 28 cEXISTS t M := by
  intro B w b O A L room now hS p c hR hT hlen hO
  have HA := hid (al_two w (cob b cEXISTS p t.length c) rob0)
  have HI := hid (hI B _ b O A L room now (hS.below HA.out.1) p c (hR.below HA.out.1) hT hlen hO)
  have HS := hid hS
  generalize M room now L = C at *
  generalize t.length = n at *
  clear hS hR hT hlen hO hI
  go_enter Tryz.func28, Tryz.ntmps28
  go_wp2_with fail
  refine HI.out.mono ?_; rintro e w1 ⟨q, d, rfl, hh⟩
  have hs0 := HA.out.2.2.2
  have HH := hid hh.out
  have HZ1 := hid ((show w1.heap[w.heap.size + 1]? = _ by
    obtain ⟨O', A', _, h2, _⟩ := HH.out.ex
    exact own_block' HS.out h2 (w.heap.size + 1) (by omega) (by omega)).trans HA.out.2.2.1)
  clear hh HI
  go_wp2_with (refine wpList_store_row rfl 32 _ _ rfl (w.heap.size + 1) #[.int .i64 C.2.kind, .int .i64 C.2.int, txt C.2.text, .slice q C.2.list.length d] rfl rfl 32 _ HZ1.out (Re.infoRep _ _ _ _) rfl (one_r _ _ _) ?_)
  refine bodyPost_ret (v := rval C.2 q d) ?_ rfl ?_
  · exact Re.ret_rep1 rfl rfl (setRow_heap w1 _ _ _ _ _ HZ1.out)
  · exact ⟨q, d, rfl, Post.set HH.out HS.out HA.out.1 (w.heap.size + 1) (by omega) (by omega) (fun j hj => ⟨by omega, by omega⟩) (keep_row _ _ _)⟩
end Go.Proofs.YtcbncdigejjcpaaGreatDoor.Ex

namespace Go.Proofs.YtcbncdigejjcpaaGreatDoor.Ex
open Re (Rep)
open Go.RowKit

set_option maxHeartbeats 8000000 in
set_option maxRecDepth 100000 in
theorem vGET {t : Row} {M : Int → Int → List EP → List EP × Rep} (hI : Ans 43 cGET t M) : Ans 28 cGET t M := by
  intro B w b O A L room now hS p c hR hT hlen hO
  have HA := hid (al_two w (cob b cGET p t.length c) rob0)
  have HI := hid (hI B _ b O A L room now (hS.below HA.out.1) p c (hR.below HA.out.1) hT hlen hO)
  have HS := hid hS
  generalize M room now L = C at *
  generalize t.length = n at *
  clear hS hR hT hlen hO hI
  go_enter Tryz.func28, Tryz.ntmps28
  go_wp2_with fail
  refine HI.out.mono ?_; rintro e w1 ⟨q, d, rfl, hh⟩
  have hs0 := HA.out.2.2.2
  have HH := hid hh.out
  have HZ1 := hid ((show w1.heap[w.heap.size + 1]? = _ by
    obtain ⟨O', A', _, h2, _⟩ := HH.out.ex
    exact own_block' HS.out h2 (w.heap.size + 1) (by omega) (by omega)).trans HA.out.2.2.1)
  clear hh HI
  go_wp2_with (refine wpList_store_row rfl 32 _ _ rfl (w.heap.size + 1) #[.int .i64 C.2.kind, .int .i64 C.2.int, txt C.2.text, .slice q C.2.list.length d] rfl rfl 32 _ HZ1.out (Re.infoRep _ _ _ _) rfl (one_r _ _ _) ?_)
  refine bodyPost_ret (v := rval C.2 q d) ?_ rfl ?_
  · exact Re.ret_rep1 rfl rfl (setRow_heap w1 _ _ _ _ _ HZ1.out)
  · exact ⟨q, d, rfl, Post.set HH.out HS.out HA.out.1 (w.heap.size + 1) (by omega) (by omega) (fun j hj => ⟨by omega, by omega⟩) (keep_row _ _ _)⟩
set_option maxHeartbeats 8000000 in
set_option maxRecDepth 100000 in
theorem vRPUSH {t : Row} {M : Int → Int → List EP → List EP × Rep} (hI : Ans 45 cRPUSH t M) : Ans 28 cRPUSH t M := by
  intro B w b O A L room now hS p c hR hT hlen hO
  have HA := hid (al_two w (cob b cRPUSH p t.length c) rob0)
  have HI := hid (hI B _ b O A L room now (hS.below HA.out.1) p c (hR.below HA.out.1) hT hlen hO)
  have HS := hid hS
  generalize M room now L = C at *
  generalize t.length = n at *
  clear hS hR hT hlen hO hI
  go_enter Tryz.func28, Tryz.ntmps28
  go_wp2_with fail
  refine HI.out.mono ?_; rintro e w1 ⟨q, d, rfl, hh⟩
  have hs0 := HA.out.2.2.2
  have HH := hid hh.out
  have HZ1 := hid ((show w1.heap[w.heap.size + 1]? = _ by
    obtain ⟨O', A', _, h2, _⟩ := HH.out.ex
    exact own_block' HS.out h2 (w.heap.size + 1) (by omega) (by omega)).trans HA.out.2.2.1)
  clear hh HI
  go_wp2_with (refine wpList_store_row rfl 32 _ _ rfl (w.heap.size + 1) #[.int .i64 C.2.kind, .int .i64 C.2.int, txt C.2.text, .slice q C.2.list.length d] rfl rfl 32 _ HZ1.out (Re.infoRep _ _ _ _) rfl (one_r _ _ _) ?_)
  refine bodyPost_ret (v := rval C.2 q d) ?_ rfl ?_
  · exact Re.ret_rep1 rfl rfl (setRow_heap w1 _ _ _ _ _ HZ1.out)
  · exact ⟨q, d, rfl, Post.set HH.out HS.out HA.out.1 (w.heap.size + 1) (by omega) (by omega) (fun j hj => ⟨by omega, by omega⟩) (keep_row _ _ _)⟩

end Go.Proofs.YtcbncdigejjcpaaGreatDoor.Ex

namespace Go.Proofs.YtcbncdigejjcpaaGreatDoor.Ex
open Re (Rep)
open Go.RowKit

theorem cnt_take {L : List EP} {t : Row} {i : Nat} (h : i < t.length) : cntKs L (t.take (i + 1)) = cntKs L (t.take i) + (if isIn L t[i] then 1 else 0) := by
  have key : ∀ (a b : Row), cntKs L (a ++ b) = cntKs L a + cntKs L b := fun a b => by
    induction a with
    | nil => simp [cntKs]
    | cons x r ih => simp only [List.cons_append, cntKs, ih]; omega
  rw [List.take_succ_eq_append_getElem h, key]
  simp [cntKs]
theorem cnt_in (L : List EP) : ∀ t : Row, 0 ≤ cntKs L t ∧ cntKs L t ≤ (t.length : Int)
  | [] => ⟨by simp [cntKs], by simp [cntKs]⟩
  | k :: r => by
    obtain ⟨h1, h2⟩ := cnt_in L r
    simp only [cntKs, List.length_cons]
    split <;> omega
set_option maxHeartbeats 8000000 in
set_option maxRecDepth 100000 in
theorem a6 (t : Row) (hne : t ≠ []) : Ans 53 cEXISTS t (fun _ _ L => (L, wholeR (cntKs L t))) := by
  intro B w b O A L room now hS p c hR hT hlen hO
  dsimp only
  obtain ⟨g, o, rfl, hc⟩ := hR.strs hne
  have hgl : g < w.heap.size := block_lt_of_cell (hc 0 (List.length_pos_iff.2 hne))
  have HS := hid hS
  have HCc := hid hc
  have HT := hid hT
  have HA := hid (al_two w (cob b cEXISTS (some ⟨g, o, none⟩) t.length c) rob0)
  have hlz : (t.length : Int) ≤ 63 := by omega
  have hs0 := HA.out.2.2.2
  obtain ⟨R, hR'⟩ : ∃ R, R = wholeR (cntKs L t) := ⟨_, rfl⟩
  rw [← hR']
  have HR := hid hR'
  clear hS hR hT hO hc hR' hne hlen
  go_enter Tryz.func53, Tryz.ntmps53
  go_wp2_with fail
  go_loopw [3, 26] (fun v3 v26 W => ∃ i : Nat, v26 = .int .i64 i ∧ v3 = .int .i64 (cntKs L (t.take i)) ∧ i ≤ t.length ∧ Hid (W.heap[w.heap.size]? = some (cob b cEXISTS (some ⟨g, o, none⟩) t.length c)) ∧ Hid (W.heap[w.heap.size + 1]? = some rob0) ∧ w.heap.size + 2 ≤ W.heap.size ∧ Hid (Below w.heap.size w W)) (fun _ v26 _ => t.length - (intOf v26).toNat)
  case atStart => exact ⟨0, rfl, by simp [cntKs], Nat.zero_le _, HA.out.2.1, HA.out.2.2.1, Nat.le_of_eq hs0.symm, HA.out.1⟩
  case round =>
    obtain ⟨i, rfl, rfl, hi, HCi, HZi, hsi, HBi⟩ := hrel
    have hcn := cnt_in L (t.take i)
    have hcl : ((t.take i).length : Int) ≤ 63 := by simp; omega
    have hci2 : cntKs L (t.take i) ≤ 63 := by omega
    have hci1 := hcn.1
    clear hcn hcl
    by_cases hlt : i < t.length
    · have hiz : (i : Int) < (t.length : Int) := by omega
      have hk := cell_turn (HCc.out i hlt) (HBi.out.block g hgl)
      obtain ⟨x0, x1, x2⟩ := call_facts HCi.out
      have HNx := hid (cnt_take (L := L) hlt)
      have HG := hid (sp_get (HS.out.below HBi.out) t[i] (HT.out _ (List.getElem_mem hlt)))
      generalize t[i] = k at *
      generalize cntKs L (t.take i) = N at *
      rw [show (getL k L).isSome = isIn L k from rfl] at HG
      obtain ⟨is, his⟩ : ∃ is, is = isIn L k := ⟨_, rfl⟩
      rw [← his] at HG HNx
      clear his
      go_wp2_with fail
      refine HG.out.mono ?_; rintro e w1 ⟨y, rfl, hh⟩
      have hb := hh.out.2.2
      have hba := below_alloc w1 (eob y)
      have HB2 := hid (HBi.out.trans ((hb.trans (hba.mono hb.size)).mono HBi.out.size))
      have hs1 := hb.size
      have HC2 := hid ((hba.block w.heap.size (by omega)).trans ((hb.block w.heap.size (by omega)).trans HCi.out))
      have HZ2 := hid ((hba.block (w.heap.size + 1) (by omega)).trans ((hb.block (w.heap.size + 1) (by omega)).trans HZi.out))
      clear hh hb hba x0 x1 x2
      cases is
      · have HNy : Hid (cntKs L (t.take (i + 1)) = N) := by unfold Hid; rw [HNx.out]; simp
        go_wp2_with fail
        exact ⟨⟨i + 1, by go_num, by rw [HNy.out], by omega, HC2.out, HZ2.out, by simp; omega, HB2.out⟩, by simp [intOf]; omega⟩
      · have HNy : Hid (cntKs L (t.take (i + 1)) = N + 1) := by unfold Hid; rw [HNx.out]; simp
        go_wp2_with fail
        exact ⟨⟨i + 1, by go_num, by rw [HNy.out], by omega, HC2.out, HZ2.out, by simp; omega, HB2.out⟩, by simp [intOf]; omega⟩
    · have et : t.take i = t := List.take_of_length_le (by omega)
      rw [et] at hci1 hci2 ⊢
      have HN := hid (number_any (cntKs L t) wr)
      rw [← HR.out] at HN
      have HF := hid (fit_num (n := cntKs L t) ⟨by omega, by omega⟩)
      rw [← HR.out] at HF
      generalize cntKs L t = N at *
      clear et
      go_wp2_with fail
      refine HN.out.mono ?_; rintro e w1 ⟨rfl, hb⟩
      have HB1 := hid (HBi.out.trans (hb.out.mono HBi.out.size))
      have HZ1 := hid ((hb.out.block (w.heap.size + 1) (by omega)).trans HZi.out)
      clear hb
      go_wp2_with (refine wpList_store_row rfl 32 _ _ rfl (w.heap.size + 1) #[.int .i64 R.kind, .int .i64 R.int, txt R.text, .slice none R.list.length 0] rfl rfl 32 _ HZ1.out (Re.infoRep _ _ _ _) rfl (one_r _ _ _) ?_)
      refine bodyPost_ret (v := rval R none 0) ?_ rfl ?_
      · exact Re.ret_rep1 rfl rfl (setRow_heap w1 _ _ _ _ _ HZ1.out)
      · exact ⟨none, 0, rfl, Post.quiet HS.out (Re.below_setRow HB1.out (by omega) _) (rp_flat HF.out.1 HF.out.2) (fun _ h => h)⟩

end Go.Proofs.YtcbncdigejjcpaaGreatDoor.Ex

namespace Go.Proofs.YtcbncdigejjcpaaGreatDoor.Ex
open Re (Rep)
open Go.RowKit

theorem push_some {front : Bool} : ∀ {ts l l' : Row}, pushM front l ts = some l' → l.length ≤ 256 → l'.length ≤ 256 ∧ ∀ x ∈ l', x ∈ l ∨ x ∈ ts
  | [], l, l', h, hl => by
    injection h with h
    subst h
    exact ⟨hl, fun x hx => .inl hx⟩
  | s :: ts, l, l', h, hl => by
    rw [pushM_cons] at h
    by_cases hf : 256 ≤ l.length
    · rw [if_pos hf] at h; cases h
    · rw [if_neg hf] at h
      obtain ⟨h1, h2⟩ := push_some h (by cases front <;> simp <;> omega)
      refine ⟨h1, fun x hx => ?_⟩
      rcases h2 x hx with h' | h'
      · cases front
        · rcases List.mem_append.1 h' with h' | h'
          · exact .inl h'
          · exact .inr (by rw [List.mem_singleton.1 h']; exact List.mem_cons_self)
        · rcases List.mem_cons.1 h' with h' | h'
          · exact .inr (by rw [h']; exact List.mem_cons_self)
          · exact .inl h'
      · exact .inr (List.mem_cons_of_mem _ h')
theorem push_fits {front : Bool} {l ts : Row} (hl : l.length ≤ 256) (hb : ∀ x ∈ l, x.length ≤ 140737488351232) (ht : ∀ x ∈ ts, x.length ≤ 140737488351232) (_hn : ts.length ≤ 63) (hf : (pushR front l ts).kind ≠ 2) : ((pushM front l ts).getD []).length ≤ 1000 ∧ ∀ x ∈ (pushM front l ts).getD [], x.length ≤ 140737488351232 := by
  unfold pushR at hf
  cases hp : pushM front l ts with
  | none => rw [hp] at hf; exact absurd rfl hf
  | some l' =>
    obtain ⟨h1, h2⟩ := push_some hp hl
    exact ⟨by show l'.length ≤ _; omega, fun x hx => (h2 x hx).elim (hb x) (ht x)⟩
set_option maxHeartbeats 8000000 in
set_option maxRecDepth 100000 in
theorem a18 (k : Nm) (ts : Row) (hts : ts ≠ []) : Ans 45 cLPUSH (k :: ts) (fun room now L => chM L room now k 3 (listV ((pushM true (curV L k 3).items ts).getD [])) (pushR true (curV L k 3).items ts)) := by
  intro B w b O A L room now hS p c hR hT hlen hO
  dsimp only
  obtain ⟨g, o, rfl, hc⟩ := hR.strs (List.cons_ne_nil _ _)
  have h0 : w.cell? ⟨g, o, none⟩ = some (txt k) := hc 0 (by simp)
  have hl0 : k.length ≤ 140737488351232 := hT k (by simp)
  have hgl : g < w.heap.size := block_lt_of_cell h0
  have hcap : ts.length + 1 ≤ c := hR.cap
  have htl : ∀ x ∈ ts, x.length ≤ 140737488351232 := fun x hx => hT x (List.mem_cons_of_mem _ hx)
  have htc : ∀ i (h : i < ts.length), w.cell? ⟨g, o + 1 + i, none⟩ = some (txt ts[i]) := fun i hi => by
    have := hc (i + 1) (by simpa using hi)
    rw [show o + 1 + i = o + (i + 1) by omega]
    exact this
  replace hlen : ts.length ≤ 63 := by simp at hlen; omega
  have HS := hid hS
  have HA := hid (al_three w (cob b cLPUSH (some ⟨g, o, none⟩) (ts.length + 1) c) rob0 (.cells #[.bool true] 4))
  have k0 := cell_turn h0 (HA.out.1.block g hgl)
  have HL := hid (changeRow_any (HS.out.below HA.out.1) cLPUSH g o (ts.length + 1) c k 86 #[pt w.heap.size, pt (w.heap.size + 2)] ((pushM true (curV L k 3).items ts).getD []) (pushR true (curV L k 3).items ts) (enters_of Tryz.func86 (by kernel_rfl) rfl) (by omega) k0 hl0 (fun hok => row_push _ (curV L k 3).items ts w.heap.size (w.heap.size + 2) b cLPUSH g o c true HA.out.2.1 (one_fact HA.out.2.2.2.1) hts hcap hlen (fun i hi => cell_turn (htc i hi) (HA.out.1.block g hgl))) (fun hok hf => push_fits (cur_right HS.out k 3 hok).2.2.1 (cur_came HS.out k 3 (by decide)).texts htl hlen hf))
  obtain ⟨C, hC⟩ : ∃ C, C = chM L room now k 3 (listV ((pushM true (curV L k 3).items ts).getD [])) (pushR true (curV L k 3).items ts) := ⟨_, rfl⟩
  rw [← hC] at HL ⊢
  clear hC hS hR hT hO h0 hc k0 htc htl hcap hlen hts
  go_enter Tryz.func45, Tryz.ntmps45
  go_wp2_with fail
  refine HL.out.mono ?_; rintro e w1 ⟨q, d, rfl, hh⟩
  have hs0 := HA.out.2.2.2.2
  have HH := hid hh.out
  have HZ1 := hid ((show w1.heap[w.heap.size + 1]? = _ by
    obtain ⟨O', A', _, h2, _⟩ := HH.out.ex
    exact own_block' HS.out h2 (w.heap.size + 1) (by omega) (by omega)).trans HA.out.2.2.1)
  clear hh HL
  go_wp2_with (refine wpList_store_row rfl 32 _ _ rfl (w.heap.size + 1) #[.int .i64 C.2.kind, .int .i64 C.2.int, txt C.2.text, .slice q C.2.list.length d] rfl rfl 32 _ HZ1.out (Re.infoRep _ _ _ _) rfl (one_r _ _ _) ?_)
  refine bodyPost_ret (v := rval C.2 q d) ?_ rfl ?_
  · exact Re.ret_rep1 rfl rfl (setRow_heap w1 _ _ _ _ _ HZ1.out)
  · exact ⟨q, d, rfl, Post.set HH.out HS.out HA.out.1 (w.heap.size + 1) (by omega) (by omega) (fun j hj => ⟨by omega, by omega⟩) (keep_row _ _ _)⟩
set_option maxHeartbeats 8000000 in
set_option maxRecDepth 100000 in
theorem a19 (k : Nm) (ts : Row) (hts : ts ≠ []) : Ans 45 cRPUSH (k :: ts) (fun room now L => chM L room now k 3 (listV ((pushM false (curV L k 3).items ts).getD [])) (pushR false (curV L k 3).items ts)) := by
  intro B w b O A L room now hS p c hR hT hlen hO
  dsimp only
  obtain ⟨g, o, rfl, hc⟩ := hR.strs (List.cons_ne_nil _ _)
  have h0 : w.cell? ⟨g, o, none⟩ = some (txt k) := hc 0 (by simp)
  have hl0 : k.length ≤ 140737488351232 := hT k (by simp)
  have hgl : g < w.heap.size := block_lt_of_cell h0
  have hcap : ts.length + 1 ≤ c := hR.cap
  have htl : ∀ x ∈ ts, x.length ≤ 140737488351232 := fun x hx => hT x (List.mem_cons_of_mem _ hx)
  have htc : ∀ i (h : i < ts.length), w.cell? ⟨g, o + 1 + i, none⟩ = some (txt ts[i]) := fun i hi => by
    have := hc (i + 1) (by simpa using hi)
    rw [show o + 1 + i = o + (i + 1) by omega]
    exact this
  replace hlen : ts.length ≤ 63 := by simp at hlen; omega
  have HS := hid hS
  have HA := hid (al_three w (cob b cRPUSH (some ⟨g, o, none⟩) (ts.length + 1) c) rob0 (.cells #[.bool false] 4))
  have k0 := cell_turn h0 (HA.out.1.block g hgl)
  have HL := hid (changeRow_any (HS.out.below HA.out.1) cRPUSH g o (ts.length + 1) c k 86 #[pt w.heap.size, pt (w.heap.size + 2)] ((pushM false (curV L k 3).items ts).getD []) (pushR false (curV L k 3).items ts) (enters_of Tryz.func86 (by kernel_rfl) rfl) (by omega) k0 hl0 (fun hok => row_push _ (curV L k 3).items ts w.heap.size (w.heap.size + 2) b cRPUSH g o c false HA.out.2.1 (one_fact HA.out.2.2.2.1) hts hcap hlen (fun i hi => cell_turn (htc i hi) (HA.out.1.block g hgl))) (fun hok hf => push_fits (cur_right HS.out k 3 hok).2.2.1 (cur_came HS.out k 3 (by decide)).texts htl hlen hf))
  obtain ⟨C, hC⟩ : ∃ C, C = chM L room now k 3 (listV ((pushM false (curV L k 3).items ts).getD [])) (pushR false (curV L k 3).items ts) := ⟨_, rfl⟩
  rw [← hC] at HL ⊢
  clear hC hS hR hT hO h0 hc k0 htc htl hcap hlen hts
  go_enter Tryz.func45, Tryz.ntmps45
  go_wp2_with fail
  refine HL.out.mono ?_; rintro e w1 ⟨q, d, rfl, hh⟩
  have hs0 := HA.out.2.2.2.2
  have HH := hid hh.out
  have HZ1 := hid ((show w1.heap[w.heap.size + 1]? = _ by
    obtain ⟨O', A', _, h2, _⟩ := HH.out.ex
    exact own_block' HS.out h2 (w.heap.size + 1) (by omega) (by omega)).trans HA.out.2.2.1)
  clear hh HL
  go_wp2_with (refine wpList_store_row rfl 32 _ _ rfl (w.heap.size + 1) #[.int .i64 C.2.kind, .int .i64 C.2.int, txt C.2.text, .slice q C.2.list.length d] rfl rfl 32 _ HZ1.out (Re.infoRep _ _ _ _) rfl (one_r _ _ _) ?_)
  refine bodyPost_ret (v := rval C.2 q d) ?_ rfl ?_
  · exact Re.ret_rep1 rfl rfl (setRow_heap w1 _ _ _ _ _ HZ1.out)
  · exact ⟨q, d, rfl, Post.set HH.out HS.out HA.out.1 (w.heap.size + 1) (by omega) (by omega) (fun j hj => ⟨by omega, by omega⟩) (keep_row _ _ _)⟩
end Go.Proofs.YtcbncdigejjcpaaGreatDoor.Ex

namespace Go.Proofs.YtcbncdigejjcpaaGreatDoor.Ex
open Re (Rep)
open Go.RowKit

set_option maxHeartbeats 8000000 in
set_option maxRecDepth 100000 in
theorem a3 (k : Nm) : Ans 43 cGET [k] (fun _ _ L => (L, if otherK L k 1 then fault fType else tonR (curV L k 1).text (isIn L k))) := by
  intro B w b O A L room now hS p c hR hT hlen hO
  dsimp only
  obtain ⟨g, o, rfl, hc⟩ := hR.strs (List.cons_ne_nil _ _)
  have h0 : w.cell? ⟨g, o, none⟩ = some (txt k) := hc 0 (by simp)
  have H0 := hid h0
  have hl0 : k.length ≤ 140737488351232 := hT k (by simp)
  have hgl := block_lt_of_cell h0
  have hcap : 1 ≤ c := hR.cap
  have HS := hid hS
  have HA := hid (al_two w (cob b cGET (some ⟨g, o, none⟩) 1 c) rob0)
  have HTb := hid (tab_of hS)
  have k0 := cell_turn h0 (HA.out.1.block g hgl)
  clear h0 hc
  clear hS hR hT hO hlen
  obtain ⟨R, hRR⟩ : ∃ R, R = (if otherK L k 1 then fault fType else tonR (curV L k 1).text (isIn L k)) := ⟨_, rfl⟩
  rw [← hRR]
  have HRR := hid hRR
  clear hRR
  go_enter Tryz.func43, Tryz.ntmps43
  go_wp2_with fail
  have HB0 := hid HA.out.1
  have hs0 : w.heap.size + 2 ≤ ((w.alloc (cob b cGET (some ⟨g, o, none⟩) 1 c)).alloc rob0).heap.size := Nat.le_of_eq HA.out.2.2.2.symm
  have HC0 := hid HA.out.2.1
  have HZ0 := hid HA.out.2.2.1
  clear k0
  generalize ((w.alloc (cob b cGET (some ⟨g, o, none⟩) 1 c)).alloc rob0) = w0 at HB0 hs0 HC0 HZ0 ⊢
  clear HA
  obtain ⟨x0, x1, x2⟩ := call_facts HC0.out
  have k0 := cell_turn H0.out (HB0.out.block g hgl)
  have HL := hid (look_any (HS.out.below HB0.out) cGET g o 1 c k 1 69 #[] (tonR (curV L k 1).text (isIn L k)) (enters_of Tryz.func69 (by kernel_rfl) rfl) (by omega) k0 hl0 (fun hok W y hb hy hoy => by
    have hm : y.m = curV L k 1 := congrArg (fun e => e.2.1) hy
    have hcm := cur_came HS.out k 1 (by decide)
    rw [← hm] at hcm ⊢
    exact look_get y.m y.pp y.pc y.ip y.ic (isIn L k) W hcm.text))
  rw [← HRR.out] at HL
  refine HL.out.mono ?_; rintro e w1 ⟨q, d, rfl, hh⟩
  have HB1 := hid (HB0.out.trans (hh.out.2.mono HB0.out.size))
  have HZ1 := hid ((hh.out.2.block (w.heap.size + 1) (by omega)).trans HZ0.out)
  have HP1 := hid hh.out.1
  clear hh HL x0 x1 x2 k0
  go_wp2_with (refine wpList_store_row rfl 32 _ _ rfl (w.heap.size + 1) #[.int .i64 R.kind, .int .i64 R.int, txt R.text, .slice q R.list.length d] rfl rfl 32 _ HZ1.out (Re.infoRep _ _ _ _) rfl (one_r _ _ _) ?_)
  refine bodyPost_ret (v := rval R q d) ?_ rfl ?_
  · exact Re.ret_rep1 rfl rfl (setRow_heap w1 _ _ _ _ _ HZ1.out)
  · exact ⟨q, d, rfl, Post.quiet HS.out (Re.below_setRow HB1.out (by omega) _) (HP1.out.turn (fun j hj _ => ⟨by omega, setRow_other _ _ _ _ (by omega)⟩) (Nat.le_refl _)) (fun _ h => h)⟩
end Go.Proofs.YtcbncdigejjcpaaGreatDoor.Ex
