/- Replies written: appendReply, appendList, Encode. -/
import Derived.Test.YtngkbacnajgmcaaDoorWrite
namespace Go.Proofs.YtngkbacnajgmcaaDoor
open Go.RowKit

theorem enc_none {k : Nat} {r : Rep} (h : right k r = false) : enc k r = none := by
  cases k <;> (unfold enc; rw [h]; rfl)
theorem enc_flat {k : Nat} {r : Rep} (h : right k r = true) (h6 : ¬ r.kind = 6) : enc k r = some (body r) := by
  cases k
  · unfold enc; rw [if_pos h]
  · unfold enc; rw [if_pos h, if_neg h6]
theorem enc_many {k : Nat} {r : Rep} (h : right (k + 1) r = true) (h6 : r.kind = 6) : enc (k + 1) r = (encAll (enc k) r.list).map (ln 42 (Lib.itoa (r.list.length : Nat)) ++ ·) := by
  unfold enc; rw [if_pos h, if_pos h6]
theorem encAll_cons {f : Rep → Option (List UInt8)} {r : Rep} {l : List Rep} {x : List UInt8} (h : f r = some x) : encAll f (r :: l) = (encAll f l).map (x ++ ·) := by
  simp [encAll, h]
theorem encAll_stop {f : Rep → Option (List UInt8)} {r : Rep} {l : List Rep} (h : f r = none) : encAll f (r :: l) = none := by
  simp [encAll, h]
theorem cost_text (k : Nat) (r : Rep) : r.text.length + 100 ≤ cost k r := by cases k <;> (unfold cost; omega)
theorem body_len (r : Rep) (f : Fit r) : (body r).length ≤ r.text.length + 60 := by
  have h1 := itoa_len r.int f.n0 f.n1
  have ht := f.t
  have h2 := itoa_len ((r.text.length : Nat) : Int) (by omega) (by omega)
  unfold body
  repeat' split
  all_goals simp only [ln, List.length_append, List.length_cons, List.length_nil]
  all_goals omega
theorem Rp.at {B : Nat} {w1 W : World} (hb : Below B w1 W) {d : Nat} {v : Value} {r : Rep} (h : Rp (fun b => b < B) w1 d v r) : Rp (fun b => b < B) W d v r :=
  h.turn (fun b hp _ => ⟨hp, hb.block b hp⟩) (Nat.le_refl _)
/-- what appendReply does within so many lists -/
def AppAt (k : Nat) : Prop := ∀ (z : Int) (B : Nat) (w1 W : World) (v vr : Value) (T : List UInt8) (r : Rep) (d : Nat), z = (k : Int) → k ≤ 100 → Txt B w1 W v T → Env w1 → 6 ≤ B → Rp (fun b => b < B) w1 d vr r → T.length + cost k r ≤ 140737488300000 →
  Calls Tryd.prog 18 #[v, vr, .int .i64 z] W fun e W' => ∃ v' b, e = .returned (.tuple #[v', .bool b]) ∧ Hid ((∀ x, enc k r = some x → b = true ∧ Txt B w1 W' v' (T ++ x)) ∧ (enc k r = none → b = false) ∧ Below B w1 W' ∧ B ≤ W'.heap.size)
/-- all that a reply holds fits -/
def Fits : Nat → Rep → Prop
  | 0, r => Fit r
  | k + 1, r => Fit r ∧ ∀ x ∈ r.list, Fits k x
theorem Fits.fit : ∀ {k : Nat} {r : Rep}, Fits k r → Fit r
  | 0, _, h => h
  | _ + 1, _, h => h.1
theorem Rp.fits {P : Nat → Prop} {w : World} : ∀ (k : Nat) {d : Nat} {v : Value} {r : Rep}, Rp P w d v r → Fits k r
  | 0, _, _, _, h => by obtain ⟨_, _, _, _, _, f, _⟩ := h.open; exact f
  | k + 1, _, _, _, h => by
    obtain ⟨_, _, _, _, _, f, R⟩ := h.open
    refine ⟨f, fun x hx => ?_⟩
    obtain ⟨i, hi, rfl⟩ := List.getElem_of_mem hx
    obtain ⟨_, _, _, _, hxx⟩ := R (fun e => by simp [e] at hi)
    obtain ⟨_, _, _, _, _, _, R1⟩ := hxx i hi
    exact R1.fits k
theorem encAll_len {f : Rep → Option (List UInt8)} {g : Rep → Nat} : ∀ {l : List Rep} {y : List UInt8}, (∀ x ∈ l, ∀ x', f x = some x' → x'.length ≤ g x) → encAll f l = some y → y.length ≤ (l.map g).sum
  | [], y, _, h => by
    unfold encAll at h
    injection h with h
    rw [← h]; simp
  | r :: l, y, hf, h => by
    unfold encAll at h
    cases hr : f r with
    | none => rw [hr] at h; cases h
    | some x =>
      rw [hr] at h
      cases hl : encAll f l with
      | none => simp [hl] at h
      | some z =>
        simp [hl] at h
        have h1 := hf r (by simp) x hr
        have h2 := encAll_len (fun x hx => hf x (by simp [hx])) hl
        rw [← h]
        simp
        omega
theorem enc_len : ∀ {k : Nat} {r : Rep} {x : List UInt8}, Fits k r → enc k r = some x → x.length ≤ cost k r := by
  intro k
  induction k with
  | zero =>
    intro r x f h
    cases hr : right 0 r
    · rw [enc_none hr] at h; cases h
    · unfold enc at h
      rw [if_pos hr] at h
      injection h with h
      have := body_len r f
      rw [← h]
      unfold cost; omega
  | succ k ih =>
    intro r x f h
    cases hr : right (k + 1) r
    · rw [enc_none hr] at h; cases h
    · by_cases h6 : r.kind = 6
      · rw [enc_many hr h6] at h
        cases hl : encAll (enc k) r.list with
        | none => rw [hl] at h; cases h
        | some y =>
          rw [hl] at h
          injection h with h
          have h1 := encAll_len (g := cost k) (fun x hx x' hx' => ih (f.2 x hx) hx') hl
          have hlen := f.1.l
          have h2 := itoa_len (r.list.length : Nat) (by omega) (by omega)
          rw [← h]
          unfold cost
          simp [ln]
          omega
      · rw [enc_flat hr h6] at h
        injection h with h
        have := body_len r f.1
        have h2 := cost_text (k + 1) r
        rw [← h]
        omega
set_option maxHeartbeats 2000000 in
set_option maxRecDepth 100000 in
theorem appendList_of {k : Nat} (ih : AppAt k) (z : Int) (B : Nat) (w1 W : World) (v : Value) (p : Option Addr) (c : Nat) (T : List UInt8) (l : List Rep) (d : Nat) (hz : z = (k : Int)) (hk : k ≤ 100) (h : Txt B w1 W v T) (hE : Env w1) (hB : 6 ≤ B) (hR : RowOf (fun b => b < B) w1 (Rp (fun b => b < B) w1 d) p l) (hl : l.length ≤ 9223372036854775807)
    (hT : T.length + 100 + (l.map (cost k)).sum ≤ 140737488300000) :
    Calls Tryd.prog 27 #[v, .slice p l.length c, .int .i64 z] W fun e W' => ∃ v' b, e = .returned (.tuple #[v', .bool b]) ∧ Hid ((∀ y, encAll (enc k) l = some y → b = true ∧ Txt B w1 W' v' (T ++ ln 42 (Lib.itoa (l.length : Nat)) ++ y)) ∧ (encAll (enc k) l = none → b = false) ∧ Below B w1 W' ∧ B ≤ W'.heap.size) := by
  have HI := hid (itoa_any (l.length : Nat) W (hE.below h.bel hB) (by omega) (by omega))
  have hlen := itoa_len (l.length : Nat) (by omega) (by omega)
  have HA : Hid (∀ W', Below W.heap.size W W' → Calls Tryd.prog 25 #[v, .int .u8 42, .string ⟨(Lib.itoa (l.length : Nat)).toArray⟩] W' fun e W'' => ∃ v', e = .returned v' ∧ Hid (Txt B w1 W'' v' (T ++ ln 42 (Lib.itoa (l.length : Nat))) ∧ Kpt W' W'')) :=
    fun W' hb => appendLine_any (h.go hb) 42 42 rfl _ (by omega)
  have HR := hid hR
  have IH := hid ih
  have HE := hid hE
  have HZ := hid hz
  have HT : Hid ((T ++ ln 42 (Lib.itoa (l.length : Nat))).length + (l.map (cost k)).sum ≤ 140737488300000) := by
    unfold Hid; simp [ln]; omega
  generalize T ++ ln 42 (Lib.itoa (l.length : Nat)) = T0 at HA HT ⊢
  clear h hE hR ih hz hT hlen
  go_enter Tryd.func27, Tryd.ntmps27
  go_wp2_with fail
  refine HI.out.mono ?_; rintro e w2 ⟨rfl, hb2⟩
  have HA2 := hid (HA.out w2 hb2)
  clear hb2 HI HA
  go_wp2_with fail
  refine HA2.out.mono ?_; rintro e w3 ⟨v3, rfl, ht3⟩
  have HT3 := hid ht3.out.1
  clear ht3 HA2
  go_wp2
  go_loopw [0, 18] (fun v0 v18 W => ∃ (i : Nat) (y : List UInt8), v18 = .int .i64 i ∧ i ≤ l.length ∧ Hid (Txt B w1 W v0 (T0 ++ y)) ∧ Hid ((∀ z, encAll (enc k) (l.drop i) = some z → encAll (enc k) l = some (y ++ z)) ∧ (encAll (enc k) (l.drop i) = none → encAll (enc k) l = none)) ∧ Hid (T0.length + y.length + ((l.drop i).map (cost k)).sum ≤ 140737488300000)) (fun _ v18 _ => l.length - (intOf v18).toNat)
  case atStart => exact ⟨0, [], rfl, Nat.zero_le _, by simpa [Hid] using HT3.out, ⟨fun z hz => by simpa using hz, fun hz => by simpa using hz⟩, by simpa [Hid] using HT.out⟩
  case round =>
    obtain ⟨i, y, rfl, hi, HX, HQ, HC⟩ := hrel
    by_cases hlt : i < l.length
    · have hlz : (i : Int) < (l.length : Int) := by omega
      obtain ⟨b1, o1, rfl, hbB, hx1⟩ := HR.out (fun e => by rw [e] at hlt; simp at hlt)
      obtain ⟨q1, m1, c10, c11, c12, c13, R1⟩ := hx1 i hlt
      rw [← HX.out.bel.cell (p := ⟨b1, o1 + i * 4, none⟩) hbB] at c10
      rw [← HX.out.bel.cell (p := ⟨b1, o1 + i * 4 + 1, none⟩) hbB] at c11
      rw [← HX.out.bel.cell (p := ⟨b1, o1 + i * 4 + 2, none⟩) hbB] at c12
      rw [← HX.out.bel.cell (p := ⟨b1, o1 + i * 4 + 3, none⟩) hbB] at c13
      have hds := List.drop_eq_getElem_cons hlt
      have HC1 : Hid (T0.length + y.length + (cost k l[i] + ((l.drop (i + 1)).map (cost k)).sum) ≤ 140737488300000) := by
        have := HC.out
        rw [hds, List.map_cons, List.sum_cons] at this
        exact this
      have HCall := hid fun o => IH.out z B w1 (wr.alloc o) u0 _ (T0 ++ y) l[i] d HZ.out hk (HX.out.go (below_alloc wr o)) HE.out hB R1 (by have := HC1.out; simp; omega)
      have HS := hid hds
      have HF := hid (R1.fits k)
      generalize l[i] = x at *
      clear hx1 R1 hds
      go_wp2_with fail
      refine (HCall.out _).mono ?_; rintro e w4 ⟨v4, b, rfl, hh⟩
      have HH := hid hh.out
      clear hh HCall
      cases hx : enc k x with
      | none =>
        obtain rfl := HH.out.2.1 hx
        have HN : Hid (encAll (enc k) l = none) := HQ.out.2 (by rw [HS.out]; exact encAll_stop hx)
        clear hx
        go_wp2
        go_ret2
        exact ⟨_, false, rfl, ⟨fun y hy => absurd (HN.out.symm.trans hy) (by simp), fun _ => rfl, HH.out.2.2⟩⟩
      | some x' =>
        obtain ⟨rfl, ht4⟩ := HH.out.1 x' hx
        have HT4 := hid ht4
        have HQ2 : Hid ((∀ z, encAll (enc k) (l.drop (i + 1)) = some z → encAll (enc k) l = some ((y ++ x') ++ z)) ∧ (encAll (enc k) (l.drop (i + 1)) = none → encAll (enc k) l = none)) := by
          have h1 := HQ.out
          rw [HS.out, encAll_cons hx] at h1
          refine ⟨fun z hz => ?_, fun hz => h1.2 (by rw [hz]; rfl)⟩
          have := h1.1 (x' ++ z) (by rw [hz]; rfl)
          rw [this, List.append_assoc]
        have HC2 : Hid (T0.length + (y ++ x').length + ((l.drop (i + 1)).map (cost k)).sum ≤ 140737488300000) := by
          have h1 := HC1.out
          have h2 := enc_len HF.out hx
          unfold Hid
          rw [List.length_append]
          omega
        clear ht4 hx HH
        go_wp2
        refine ⟨⟨i + 1, y ++ x', by go_num, by omega, by rw [← List.append_assoc]; exact HT4.out, HQ2.out, HC2.out⟩, by simp [intOf]; omega⟩
    · have hd : l.drop i = [] := List.drop_eq_nil_of_le (by omega)
      have HN : Hid (encAll (enc k) l = some y) := by
        have := HQ.out.1 [] (by rw [hd]; rfl)
        rw [List.append_nil] at this
        exact this
      clear hd
      go_wp2
      go_ret2
      exact ⟨_, true, rfl, ⟨fun y' hy => ⟨rfl, by rw [HN.out] at hy; injection hy with hy; rw [← hy]; exact HX.out⟩, fun hy => absurd (HN.out.symm.trans hy) (by simp), HX.out.bel, HX.out.size⟩⟩
/-- what a reply that is right is -/
theorem right_cases {k : Nat} {kd n : Int} {t : List UInt8} {l : List Rep} (h : right k (.mk kd n t l) = true) :
    (kd = 1 ∧ Pl t ∧ n = 0 ∧ l = []) ∨ (kd = 2 ∧ Pl t ∧ n = 0 ∧ l = []) ∨ (kd = 3 ∧ t = [] ∧ l = []) ∨ (kd = 4 ∧ t.length ≤ 65536 ∧ n = 0 ∧ l = []) ∨ (kd = 5 ∧ n = 0 ∧ t = [] ∧ l = []) ∨ (kd = 6 ∧ l.length ≤ 1024 ∧ 0 < k ∧ n = 0 ∧ t = []) := by
  rw [right_mk] at h
  split at h
  · rename_i hk
    have h := of_decide_eq_true h
    rcases hk with rfl | rfl
    · exact .inl ⟨rfl, h.1, h.2.1, List.eq_nil_of_length_eq_zero h.2.2⟩
    · exact .inr (.inl ⟨rfl, h.1, h.2.1, List.eq_nil_of_length_eq_zero h.2.2⟩)
  · split at h
    · have h := of_decide_eq_true h
      exact .inr (.inr (.inr (.inl ⟨by assumption, h.1, h.2.1, List.eq_nil_of_length_eq_zero h.2.2⟩)))
    · split at h
      · have h := of_decide_eq_true h
        exact .inr (.inr (.inr (.inr (.inl ⟨by assumption, h.1, h.2.1, List.eq_nil_of_length_eq_zero h.2.2⟩))))
      · split at h
        · have h := of_decide_eq_true h
          exact .inr (.inr (.inl ⟨by assumption, h.1, List.eq_nil_of_length_eq_zero h.2⟩))
        · split at h
          · have h := of_decide_eq_true h
            exact .inr (.inr (.inr (.inr (.inr ⟨by assumption, h.1, h.2.1, h.2.2.1, h.2.2.2⟩))))
          · cases h
set_option maxHeartbeats 4000000 in
set_option maxRecDepth 100000 in
theorem app_of {k : Nat} (ih : ∀ j, k = j + 1 → AppAt j) : AppAt k := by
  intro z B w1 W v vr T r d hz hk h hE hB hR hT
  obtain ⟨d, p, c, rfl, rfl, f, R⟩ := hR.open
  have hc1 := cost_text k r
  have hlen : r.text.length + T.length + 100 ≤ 140737488300000 := by omega
  obtain ⟨kd, n, t, l⟩ := r
  have HBx := hid fun o => isRight_any k hk _ _ _ (W.alloc o) (((hR.at h.bel).all (Nat.le_refl _)).below (below_alloc W o) (Nat.le_refl _))
  have hl := f.l
  have htl := f.t
  have hn0 := f.n0
  have hn1 := f.n1
  have HX := hid h
  have HE := hid hE
  have HR := hid R
  have HTc := hid hT
  have IH := hid ih
  have HBd := hid (body_len _ f)
  simp only [Rep.kind, Rep.int, Rep.text, Rep.list] at hl htl hlen HBx HR hn0 hn1 ⊢
  subst hz
  clear h hE hR hT R f hc1 ih
  cases hV : right k (.mk kd n t l)
  · have HN := hid (enc_none hV)
    rw [hV] at HBx
    clear hV
    go_enter Tryd.func18, Tryd.ntmps18
    go_wp2_with fail
    refine (HBx.out _).mono ?_; rintro e w2 ⟨rfl, hb⟩
    have HX2 := hid ((HX.out.go (below_alloc W _)).go hb.out)
    clear hb HBx
    go_wp2
    go_ret2
    exact ⟨_, false, rfl, ⟨fun y hy => absurd (HN.out.symm.trans hy) (by simp), fun _ => rfl, HX2.out.bel, HX2.out.size⟩⟩
  · rw [hV] at HBx
    have HF := hid fun h6 => enc_flat (r := .mk kd n t l) hV h6
    rcases right_cases hV with ⟨rfl, hp, rfl, rfl⟩ | ⟨rfl, hp, rfl, rfl⟩ | ⟨rfl, rfl, rfl⟩ | ⟨rfl, ht, rfl, rfl⟩ | ⟨rfl, rfl, rfl, rfl⟩ | ⟨rfl, h1024, h0k, rfl, rfl⟩
    · have HS := hid (HF.out (by simp [Rep.kind]))
      clear hV HF hp HBd
      go_enter Tryd.func18, Tryd.ntmps18
      go_wp2_with fail
      refine (HBx.out _).mono ?_; rintro e w2 ⟨rfl, hb⟩
      obtain ⟨b0, b1, b2, b3⟩ := boxed hb.out
      have HX2 := hid ((HX.out.go (below_alloc W _)).go hb.out)
      have HL := hid (appendLine_any HX2.out 43 43 rfl t (by omega))
      clear hb HBx
      go_wp2_with fail
      refine HL.out.mono ?_; rintro e w3 ⟨v3, rfl, ht3⟩
      have HT3 := hid ht3.out.1
      clear ht3 HL
      go_wp2
      go_ret2
      exact ⟨_, true, rfl, ⟨fun x hx => ⟨rfl, by rw [HS.out] at hx; injection hx with hx; rw [← hx]; exact HT3.out⟩, fun hx => absurd (HS.out.symm.trans hx) (by simp), HT3.out.bel, HT3.out.size⟩⟩
    · have HS := hid (HF.out (by simp [Rep.kind]))
      clear hV HF hp HBd
      go_enter Tryd.func18, Tryd.ntmps18
      go_wp2_with fail
      refine (HBx.out _).mono ?_; rintro e w2 ⟨rfl, hb⟩
      obtain ⟨b0, b1, b2, b3⟩ := boxed hb.out
      have HX2 := hid ((HX.out.go (below_alloc W _)).go hb.out)
      have HL := hid (appendLine_any HX2.out 45 45 rfl t (by omega))
      clear hb HBx
      go_wp2_with fail
      refine HL.out.mono ?_; rintro e w3 ⟨v3, rfl, ht3⟩
      have HT3 := hid ht3.out.1
      clear ht3 HL
      go_wp2
      go_ret2
      exact ⟨_, true, rfl, ⟨fun x hx => ⟨rfl, by rw [HS.out] at hx; injection hx with hx; rw [← hx]; exact HT3.out⟩, fun hx => absurd (HS.out.symm.trans hx) (by simp), HT3.out.bel, HT3.out.size⟩⟩
    · have HS := hid (HF.out (by simp [Rep.kind]))
      clear hV HF HBd
      have hil := itoa_len n hn0 hn1
      go_enter Tryd.func18, Tryd.ntmps18
      go_wp2_with fail
      refine (HBx.out _).mono ?_; rintro e w2 ⟨rfl, hb⟩
      obtain ⟨b0, b1, b2, b3⟩ := boxed hb.out
      have HX2 := hid ((HX.out.go (below_alloc W _)).go hb.out)
      have HIt := hid (itoa_any n w2 (HE.out.below HX2.out.bel hB) hn0 hn1)
      clear hb HBx
      go_wp2_with fail
      refine HIt.out.mono ?_; rintro e w4 ⟨rfl, hb4⟩
      have HL := hid (appendLine_any (HX2.out.go hb4) 58 58 rfl (Lib.itoa n) (by simp at hlen; omega))
      clear hb4 HIt
      go_wp2_with fail
      refine HL.out.mono ?_; rintro e w3 ⟨v3, rfl, ht3⟩
      have HT3 := hid ht3.out.1
      clear ht3 HL
      go_wp2
      go_ret2
      exact ⟨_, true, rfl, ⟨fun x hx => ⟨rfl, by rw [HS.out] at hx; injection hx with hx; rw [← hx]; exact HT3.out⟩, fun hx => absurd (HS.out.symm.trans hx) (by simp), HT3.out.bel, HT3.out.size⟩⟩
    · have HS := hid (HF.out (by simp [Rep.kind]))
      clear hV HF HBd
      have hil := itoa_len (t.length : Nat) (by omega) (by omega)
      go_enter Tryd.func18, Tryd.ntmps18
      go_wp2_with fail
      refine (HBx.out _).mono ?_; rintro e w2 ⟨rfl, hb⟩
      obtain ⟨b0, b1, b2, b3⟩ := boxed hb.out
      have HX2 := hid ((HX.out.go (below_alloc W _)).go hb.out)
      have HIt := hid (itoa_any (t.length : Nat) w2 (HE.out.below HX2.out.bel hB) (by omega) (by omega))
      have HBx2 : Hid (w2.heap[W.heap.size]? = some (.cells #[.int .i64 4, .int .i64 0, .string ⟨t.toArray⟩, .slice p 0 c] 24 (0, 0))) := (hb.out.block _ (by simp)).trans (heap_alloc_new W _)
      clear hb HBx
      go_wp2_with fail
      refine HIt.out.mono ?_; rintro e w4 ⟨rfl, hb4⟩
      have HL := hid (appendLine_any (HX2.out.go hb4) 36 36 rfl (Lib.itoa (t.length : Nat)) (by omega))
      have HBx4 := hid (Kpt.of_below hb4 (Nat.le_refl _) _ _ _ _ (by decide) HBx2.out)
      clear hb4 HIt
      go_wp2_with fail
      refine HL.out.mono ?_; rintro e w3 ⟨v3, rfl, ht3⟩
      have HT3 := hid ht3.out.1
      have c2 : w3.cell? ⟨W.heap.size, 2, none⟩ = some (.string ⟨t.toArray⟩) := cell_of_row w3 _ 2 _ _ _ (ht3.out.2 _ _ _ _ (by decide) HBx4.out)
      obtain ⟨v5, w5, hrun5, ht5, _⟩ := HT3.out.str t (by simp [ln]; omega)
      obtain ⟨v6, w6, hrun6, ht6, _⟩ := ht5.str [13, 10] (by simp [ln]; omega)
      have HR5 := hid hrun5
      have HR6 := hid hrun6
      have HT6 := hid ht6
      clear ht3 HL hrun5 hrun6 ht5 ht6
      go_wp2_with (at_builtin; first | (refine wpList_append_runs rfl _ _ 38 9 rfl _ _ _ _ rfl rfl HR5.out ?_) | (refine wpList_append_runs rfl _ _ 38 9 rfl _ _ _ _ rfl rfl HR6.out ?_))
      go_ret2
      refine ⟨_, true, rfl, ⟨fun x hx => ⟨rfl, ?_⟩, fun hx => absurd (HS.out.symm.trans hx) (by simp), HT6.out.bel, HT6.out.size⟩⟩
      rw [HS.out] at hx
      injection hx with hx
      rw [← hx]
      have e : T ++ body (.mk 4 0 t []) = T ++ ln 36 (Lib.itoa (t.length : Nat)) ++ t ++ [13, 10] := by simp [body, Rep.kind, Rep.text, List.append_assoc]
      rw [e]
      exact HT6.out
    · have HS := hid (HF.out (by simp [Rep.kind]))
      clear hV HF HBd
      go_enter Tryd.func18, Tryd.ntmps18
      go_wp2_with fail
      refine (HBx.out _).mono ?_; rintro e w2 ⟨rfl, hb⟩
      obtain ⟨b0, b1, b2, b3⟩ := boxed hb.out
      have HX2 := hid ((HX.out.go (below_alloc W _)).go hb.out)
      have HL := hid (appendLine_any HX2.out 36 36 rfl [45, 49] (by simp at hlen ⊢; omega))
      clear hb HBx
      go_wp2_with fail
      refine HL.out.mono ?_; rintro e w3 ⟨v3, rfl, ht3⟩
      have HT3 := hid ht3.out.1
      clear ht3 HL
      go_wp2
      go_ret2
      exact ⟨_, true, rfl, ⟨fun x hx => ⟨rfl, by rw [HS.out] at hx; injection hx with hx; rw [← hx]; exact HT3.out⟩, fun hx => absurd (HS.out.symm.trans hx) (by simp), HT3.out.bel, HT3.out.size⟩⟩
    · obtain ⟨j, rfl⟩ : ∃ j, k = j + 1 := ⟨k - 1, by omega⟩
      have HS := hid (enc_many hV rfl)
      clear hV HF HBd
      go_enter Tryd.func18, Tryd.ntmps18
      go_wp2_with fail
      refine (HBx.out _).mono ?_; rintro e w2 ⟨rfl, hb⟩
      obtain ⟨b0, b1, b2, b3⟩ := boxed hb.out
      have HX2 := hid ((HX.out.go (below_alloc W _)).go hb.out)
      have HL := hid (appendList_of (IH.out j rfl) (j : Int) B w1 w2 v p c T l d rfl (by omega) HX2.out HE.out hB HR.out hl (by have := HTc.out; simp [cost, Rep.text, Rep.list] at this; omega))
      clear hb HBx
      go_wp2_with fail
      refine HL.out.mono ?_; rintro e w3 ⟨v3, b, rfl, hh⟩
      have HH := hid hh.out
      clear hh HL
      go_wp2
      go_ret2
      refine ⟨_, b, rfl, ?_⟩
      obtain ⟨h1, h2, h3, h4⟩ := HH.out
      have hs := HS.out
      simp only [Rep.list] at hs
      refine ⟨fun x hx => ?_, fun hx => h2 ?_, h3, h4⟩
      · rw [hs] at hx
        cases hl : encAll (enc j) l with
        | none => rw [hl] at hx; cases hx
        | some y =>
          rw [hl] at hx
          injection hx with hx
          obtain ⟨g1, g2⟩ := h1 y hl
          rw [← hx]
          exact ⟨g1, by rw [← List.append_assoc]; exact g2⟩
      · rw [hs] at hx
        cases hl : encAll (enc j) l with
        | none => rfl
        | some y => rw [hl] at hx; cases hx
theorem app_at : ∀ k, AppAt k
  | 0 => app_of fun j h => absurd h (by omega)
  | k + 1 => app_of fun j h => by
    obtain rfl : k = j := by omega
    exact app_at k
/-- what Encode tells -/
def encOut (r : Rep) : Value := match enc 4 r with
  | some x => .tuple #[.string ⟨x.toArray⟩, .bool true]
  | none => .tuple #[.string ⟨#[]⟩, .bool false]
theorem encOut_some {r : Rep} {x : List UInt8} (h : enc 4 r = some x) : encOut r = .tuple #[.string ⟨x.toArray⟩, .bool true] := by unfold encOut; rw [h]
theorem encOut_none {r : Rep} (h : enc 4 r = none) : encOut r = .tuple #[.string ⟨#[]⟩, .bool false] := by unfold encOut; rw [h]
theorem Rp.under {P : Nat → Prop} {w w' : World} {n : Nat} (hb : Below w.heap.size w w') (hn : w.heap.size ≤ n) {d : Nat} {v : Value} {r : Rep} (h : Rp P w d v r) : Rp (fun b => b < n) w' d v r :=
  h.turn (fun b _ hlt => ⟨by omega, hb.block b hlt⟩) (Nat.le_refl _)
set_option maxHeartbeats 2000000 in
set_option maxRecDepth 100000 in
/-- Encode -/
theorem encode_any {P : Nat → Prop} (v : Value) (r : Rep) (d : Nat) (w : World) (hE : Env w) (h : Rp P w d v r) (hc : cost 4 r ≤ 140737488300000) :
    Calls Tryd.prog 11 #[v] w fun e w' => e = .returned (encOut r) ∧ Hid (Below w.heap.size w w') := by
  have hT : ∀ W : World, Txt W.heap.size W W (.slice none 0 0) [] := fun W => ⟨⟨rfl, .inl ⟨rfl, rfl⟩⟩, Below.refl _ _, Nat.le_refl _⟩
  have HA := hid fun o => app_at 4 4 (w.alloc o).heap.size (w.alloc o) (w.alloc o) (.slice none 0 0) v [] r d rfl (by decide) (hT _) (hE.below (below_alloc w o) hE.room) (by have := hE.room; simp; omega) (h.under (below_alloc w o) (by simp)) (by simpa using hc)
  obtain ⟨V, hV⟩ : ∃ V, V = encOut r := ⟨_, rfl⟩
  rw [← hV]
  have HV := hid hV
  obtain ⟨d, p, c, rfl, rfl, f, R⟩ := h.open
  clear hT hE h hc hV f R
  go_enter Tryd.func11, Tryd.ntmps11
  go_wp2_with fail
  refine (HA.out _).mono ?_; rintro e w3 ⟨v3, b, rfl, hh⟩
  have HH := hid hh.out
  clear hh HA
  cases hx : enc 4 r with
  | none =>
    obtain rfl := HH.out.2.1 hx
    have HV2 := hid (HV.out.trans (encOut_none hx))
    clear hx HV
    go_wp2
    go_ret2
    exact ⟨by rw [HV2.out]; rfl, (below_alloc w _).trans (HH.out.2.2.1.mono (by simp))⟩
  | some x =>
    obtain ⟨rfl, ht⟩ := HH.out.1 x hx
    have HV2 := hid (HV.out.trans (encOut_some hx))
    have hcv := owns_string ht.own
    simp only [List.nil_append] at hcv
    clear hx ht HV
    go_wp2
    go_ret2
    exact ⟨by rw [HV2.out]; rfl, (below_alloc w _).trans (HH.out.2.2.1.mono (by simp))⟩

end Go.Proofs.YtngkbacnajgmcaaDoor
