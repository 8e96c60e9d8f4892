/- VpG. -/
import Derived.Test.YtbfllifgmlkndaaGreatDoorM29
namespace Go.Proofs.YtbfllifgmlkndaaGreatDoor
open Go.RowKit Go.Shelf
open Slot
attribute [local go_sem] Oper.semAt_some

theorem abides_below {β : Type} {B : Nat} {J : β → World → Prop} (h : AbidesFrom B J) {s : β} {W W' : World} (hs : J s W) (hb : Below W.heap.size W W') : J s W' :=
  h s W W' none hs ⟨hb.os, hb.tape, hb.output, hb.size, fun k hk _ => hb.block k hk⟩ (fun r e => by cases e)
theorem range_snoc {f m : Nat} (h : f ≤ m) : List.range' f (m + 1 - f) = List.range' f (m - f) ++ [m] := by
  rw [show m + 1 - f = (m - f) + 1 by omega, List.range'_concat]
  simp; omega
theorem pre_slots {S : Nat → Bool} {L : List (Nat × Nat)} {i m f t : Nat} (hi : i < L.length) (hL : expand L = slots S) (hf : L[i].1 = f) (ht : L[i].2 = t) (hm : m ≤ t) (hfm : f ≤ m) : expand (L.take i) ++ List.range' f (m + 1 - f) <+: slots S := by
  rw [← hL]
  refine List.IsPrefix.trans ?_ (expand_prefix L (i + 1))
  rw [expand_take hi, hf, ht]
  refine (List.prefix_append_right_inj _).2 ?_
  have := List.range'_append (s := f) (m := m + 1 - f) (n := t - m) (step := 1)
  rw [show (m + 1 - f) + (t - m) = t + 1 - f by omega] at this
  rw [← this]
  exact List.prefix_append _ _
theorem pre_len {S : Nat → Bool} {p : List Sl} {l : List Nat} {m : Nat} (hp : p.map (·.1) = l) (h : l ++ [m] <+: slots S) : p.length < 16384 := by
  have h1 := h.length_le
  have h2 := slots_len S
  have h3 := congrArg List.length hp
  rw [List.length_map] at h3
  rw [List.length_append] at h1
  simp at h1
  omega
set_option maxRecDepth 100000 in
set_option maxHeartbeats 4000000 in
theorem slots_stops (n bn b : Nat) (S : Nat → Bool) (w : World) (hn : 1 ≤ n) (hB : Box w bn S) (hb : b < w.heap.size) : SeqStopsK Fence.wide n Tryz.prog 93 #[.pointer (some ⟨bn, 0, none⟩)] (fun x : Sl => #[.int .i64 (x.1 : Int)]) (KpB b) (fun xs => xs.map (·.1) = slots S) (fun pre => pre.map (·.1) <+: slots S) 16384 w := by
  intro l J Jx W hW hJ hJx hY h0
  have HB := hid (hB.below hW hB.lt)
  have HRg := hid (ranges_any S W)
  have hbW : b < W.heap.size := Nat.lt_of_lt_of_le hb hW.size
  have HbW := hid hbW
  have HJ := hid hJ
  have HY := hid hY
  have HJ0 := hid h0
  clear hB hW hJ hJx hY h0 hb hbW
  refine callsIn_of_wp Tryz.func93 rfl trivial ?_ rfl
  simp only [Tryz.ntmps93, List.size_toArray, List.length_cons, List.length_nil, Nat.reduceAdd, Nat.reduceSub, Array.replicate_succ, Array.replicate_zero, List.push_toArray, List.append_toArray, List.nil_append, List.cons_append]
  refine wpIn_seq (wpIn_wide.2 ?_)
  go_wp2_with (refine wpList_load_row rfl 24 _ rfl bn rfl 24 _ (0, 0) _ HB.out Tryz.underlying24 rfl (infoBits _) ?_)
  refine HRg.out.mono ?_; rintro e W1 ⟨⟨L, v, rfl, hR, ho⟩, hb1⟩
  obtain ⟨a, cap, rfl, hrow⟩ := owns_rowC ho
  have HJ1 := hid (abides_below HJ.out HJ0.out hb1)
  have HL := hid (slots_expand hR)
  have HV := hid hR.valid
  have HRow := hid hrow
  have hl1 : L.length ≤ 16384 := by have := hR.length (Nat.zero_le _); unfold top at this; omega
  have HbW1 : Hid (b < W1.heap.size) := Nat.lt_of_lt_of_le HbW.out hb1.size
  have HBase : Hid (b < W.heap.size + 2) := by have := HbW.out; show b < _; omega
  clear hR ho hrow hb1
  go_wp2_with fail
  gi_wp2
  gi_loopw [9] (fun c9 wr => ∃ (i : Nat) (pre : List Sl), c9 = .int .i64 (i : Int) ∧ i ≤ L.length ∧ Hid (pre.map (·.1) = expand (L.take i)) ∧ Hid (J pre wr) ∧ Hid (L ≠ [] → ∃ g, a = some ⟨g, 0, none⟩ ∧ W.heap.size + 2 ≤ g ∧ RowC wr g L) ∧ Hid (b < wr.heap.size)) (fun c9 _ => L.length - (intOf c9).toNat)
  case atStart => exact ⟨0, [], rfl, Nat.zero_le _, rfl, HJ1.out, HRow.out, HbW1.out⟩
  case round =>
    obtain ⟨i, pre, rfl, hi, HP, HJi, HRi, Hbi⟩ := hrel
    by_cases hlt : i < L.length
    · obtain ⟨g, rfl, hg, hrw⟩ := HRi.out (fun e => by rw [e] at hlt; exact absurd hlt (Nat.not_lt_zero _))
      obtain ⟨f, hf⟩ : ∃ f, L[i].1 = f := ⟨_, rfl⟩
      obtain ⟨t, ht⟩ : ∃ t, L[i].2 = t := ⟨_, rfl⟩
      obtain ⟨c0, c1⟩ := hrw.cell hlt
      rw [hf] at c0
      rw [ht] at c1
      have hv := HV.out L[i] (List.getElem_mem hlt)
      rw [hf, ht] at hv
      have HFt := hid hv
      have HPr : Hid (∀ m, m ≤ t → f ≤ m → expand (L.take i) ++ List.range' f (m + 1 - f) <+: slots S) := fun m h1 h2 => pre_slots hlt HL.out hf ht h1 h2
      have HNx : Hid (expand (L.take (i + 1)) = expand (L.take i) ++ List.range' f (t + 1 - f)) := by
        show _ = _
        rw [expand_take hlt, hf, ht]
      have hiz : (i : Int) < (L.length : Int) := by omega
      have HGb : Hid (g ≠ b) := by have := HBase.out; show g ≠ b; omega
      have HNb : Hid (b < wr.heap.size) := Hbi.out
      have HR0 := hid (hrw.kept (kpb_below (b := b) (below_alloc wr (.cells #[.int .i64 (f : Int), .int .i64 (t : Int)] 116)) (Nat.le_refl _)) HGb.out)
      have HJ0 := hid (abides_below HJ.out HJi.out (below_alloc wr (.cells #[.int .i64 (f : Int), .int .i64 (t : Int)] 116)))
      have HC0 := hid (heap_alloc_new wr (.cells #[.int .i64 (f : Int), .int .i64 (t : Int)] 116))
      have Hb0 : Hid (b < (wr.alloc (.cells #[.int .i64 (f : Int), .int .i64 (t : Int)] 116)).heap.size) := by have := Hbi.out; show b < _; simp; omega
      have hc0 : (wr.alloc (.cells #[.int .i64 (f : Int), .int .i64 (t : Int)] 116)).cell? ⟨wr.heap.size, 0, none⟩ = some (.int .i64 (f : Int)) := cell_of_row _ _ _ _ _ _ HC0.out
      clear hrw hf ht hv HRi
      gi_wp2
      generalize wr.alloc (.cells #[.int .i64 (f : Int), .int .i64 (t : Int)] 116) = w0 at *
      generalize wr.heap.size = n0 at *
      gi_loopw [5] (fun c5 wi => ∃ (m : Nat) (pre2 : List Sl), c5 = .int .i64 (m : Int) ∧ f ≤ m ∧ m ≤ t + 1 ∧ Hid (pre2.map (·.1) = expand (L.take i) ++ List.range' f (m - f)) ∧ Hid (J pre2 wi) ∧ Hid (RowC wi g L) ∧ Hid (∃ fr, wi.heap[n0]? = some (.cells #[.int .i64 (f : Int), .int .i64 (t : Int)] 116 fr)) ∧ Hid (b < wi.heap.size)) (fun c5 _ => t + 1 - (intOf c5).toNat)
      case atStart => exact ⟨f, pre, rfl, Nat.le_refl _, by have := HFt.out; omega, by show _ = _; rw [HP.out]; simp, HJ0.out, HR0.out, ⟨_, HC0.out⟩, Hb0.out⟩
      case round =>
        obtain ⟨m, pre2, rfl, hm1, hm2, HP2, HJm, HRm, HCm, Hbm⟩ := hrel
        obtain ⟨fr, hfr⟩ := HCm.out
        have ct : wr.cell? ⟨n0, 1, none⟩ = some (.int .i64 (t : Int)) := cell_of_row _ _ _ _ _ _ hfr
        by_cases hmt : m ≤ t
        · have hmz : (m : Int) ≤ (t : Int) := by omega
          have hpr := HPr.out m hmt hm1
          rw [range_snoc hm1, ← List.append_assoc] at hpr
          have hm16 : m < 16384 := by have := HFt.out.2; unfold top at this; omega
          obtain ⟨fn, tmps, assign, body, hy, hR⟩ := HY.out pre2 ⟨m, hm16⟩ wr HJm.out (pre_len HP2.out hpr)
          dsimp only at hy
          have HPx : Hid ((pre2 ++ [(⟨m, hm16⟩ : Sl)]).map (·.1) = expand (L.take i) ++ List.range' f (m + 1 - f)) := by
            show _ = _
            rw [List.map_append, HP2.out, range_snoc hm1, ← List.append_assoc]
            rfl
          have HPz := hid hpr
          clear hpr
          gi_wp2
          refine hR.mono ?_
          rintro e W3 (⟨rfl, hJ3, hk3⟩ | ⟨rfl, hJx3⟩)
          · have HR3 := hid (HRm.out.kept hk3 HGb.out)
            have HC3 : Hid (∃ fr, W3.heap[n0]? = some (.cells #[.int .i64 (f : Int), .int .i64 (t : Int)] 116 fr)) := ⟨fr, hk3 _ _ _ _ (Nat.ne_of_gt HNb.out) hfr⟩
            have HR3b := hid hJ3
            have Hb3 : Hid (b < W3.heap.size) := by
              obtain ⟨fr2, h1⟩ := HC3.out
              have := (Array.getElem?_eq_some_iff.1 h1).1
              exact Nat.lt_trans HNb.out this
            clear hJ3 hk3 hfr ct
            gi_wp2
            go_roundw
            case rel => exact ⟨m + 1, pre2 ++ [(⟨m, hm16⟩ : Sl)], by go_num, by omega, by omega, HPx.out, HR3b.out, HR3.out, HC3.out, Hb3.out⟩
            case measure => simp [intOf]; omega
          · have HX := hid hJx3
            clear hJx3 hfr ct
            gi_wp2
            refine bodyPost_ret (results_none rfl _ _ _) rfl ?_
            refine ⟨⟨_, rfl⟩, .inr ⟨pre2 ++ [(⟨m, hm16⟩ : Sl)], ?_, HX.out⟩⟩
            rw [HPx.out, range_snoc hm1, ← List.append_assoc]
            exact HPz.out
        · obtain rfl : m = t + 1 := by omega
          have HPn : Hid (pre2.map (·.1) = expand (L.take (i + 1))) := by show _ = _; rw [HNx.out]; exact HP2.out
          clear hfr
          have hmz : ((t : Int) + 1 ≤ (t : Int)) = False := by simp; omega
          gi_wp2
          go_roundw
          case rel => exact ⟨i + 1, pre2, by go_num, by omega, HPn.out, HJm.out, fun _ => ⟨g, rfl, hg, HRm.out⟩, Hbm.out⟩
          case measure => simp [intOf]; omega
    · obtain rfl : i = L.length := by omega
      have HPf : Hid (pre.map (·.1) = slots S) := by
        have := HP.out
        rw [List.take_length, HL.out] at this
        exact this
      gi_wp2
      go_end0
      exact ⟨⟨_, rfl⟩, .inl ⟨pre, HPf.out, HJi.out⟩⟩

end Go.Proofs.YtbfllifgmlkndaaGreatDoor
