/- Lists written by the document, and all kinds together: ref encode, ref Encode. -/
import Derived.Test.YtngkbacnajgmcaaDoorRefEnc
namespace Go.Proofs.YtngkbacnajgmcaaDoor
open Go.RowKit

set_option maxHeartbeats 2000000 in
set_option maxRecDepth 100000 in
theorem enc_other (k : Nat) (v : Value) (z kd n : Int) (t : List UInt8) (p : Option Addr) (l : List Rep) (c : Nat) (w : World) (H : Boxed w v z kd n t p l.length c) (h1 : ¬ kd = 1) (h2 : ¬ kd = 2) (h3 : ¬ kd = 3) (h4 : ¬ kd = 4) (h5 : ¬ kd = 5) (h6 : ¬ kd = 6) :
    Calls Tryd.prog 19 #[v, .int .i64 z] w fun e w' => ∃ (s : ByteArray) (b : Bool), e = .returned (.tuple #[.string s, .bool b]) ∧ Hid (EncOut k (.mk kd n t l) s b ∧ Below w.heap.size w w') := by
  have HBa := H.bare
  obtain rfl := H.shape
  have HZ := hid fun (o : Obj) => heap_alloc_new w o
  have HF : Hid (EncOut k (.mk kd n t l) ⟨#[]⟩ false) := by
    have hr : right k (.mk kd n t l) = false := by rw [right_mk]; simp [h1, h2, h3, h4, h5, h6]
    exact EncOut.none (enc_none hr)
  have z1 : (kd == 1) = false := beq_eq_false_iff_ne.2 h1
  have z2 : (kd == 2) = false := beq_eq_false_iff_ne.2 h2
  have z3 : (kd == 3) = false := beq_eq_false_iff_ne.2 h3
  have z4 : (kd == 4) = false := beq_eq_false_iff_ne.2 h4
  have z5 : (kd == 5) = false := beq_eq_false_iff_ne.2 h5
  have z6 : (kd == 6) = false := beq_eq_false_iff_ne.2 h6
  clear H h1 h2 h3 h4 h5 h6
  go_enter Tryd.func19, Tryd.ntmps19
  go_wp2_with fail
  refine (HBa.out _).mono ?_; rintro e w1 ⟨rfl, hb⟩
  have HB1 := hid ((below_alloc w _).trans (hb.out.mono (by simp)))
  have HR1 := hid ((hb.out.block _ (by simp)).trans (HZ.out _))
  clear hb HBa
  obtain ⟨⟨e0, e1, e2, e3⟩, -⟩ := row_facts HR1.out
  go_wp2_with fail
  go_ret2
  exact ⟨_, _, rfl, HF.out, HB1.out⟩
set_option maxHeartbeats 2000000 in
set_option maxRecDepth 100000 in
/-- a list that has no writing -/
theorem enc_bad (k : Nat) (v : Value) (z : Int) (p : Option Addr) (l : List Rep) (c : Nat) (w : World) (H : Boxed w v z 6 0 [] p l.length c) (hz : z = 4 - (k : Int)) (hl : l.length ≤ 9223372036854775807) (hbad : k = 0 ∨ 1024 < l.length) (hk : k ≤ 4) :
    Calls Tryd.prog 19 #[v, .int .i64 z] w fun e w' => ∃ (s : ByteArray) (b : Bool), e = .returned (.tuple #[.string s, .bool b]) ∧ Hid (EncOut k (.mk 6 0 [] l) s b ∧ Below w.heap.size w w') := by
  have HBa := H.bare
  obtain rfl := H.shape
  have HZ := hid fun (o : Obj) => heap_alloc_new w o
  have HF : Hid (EncOut k (.mk 6 0 [] l) ⟨#[]⟩ false) := by
    have hr : right k (.mk 6 0 [] l) = false := by rw [right_mk]; simp; omega
    exact EncOut.none (enc_none hr)
  clear H
  by_cases h4 : 4 ≤ z
  · clear hbad hz hk
    go_enter Tryd.func19, Tryd.ntmps19
    go_wp2_with fail
    refine (HBa.out _).mono ?_; rintro e w1 ⟨rfl, hb⟩
    have HB1 := hid ((below_alloc w _).trans (hb.out.mono (by simp)))
    have HR1 := hid ((hb.out.block _ (by simp)).trans (HZ.out _))
    clear hb HBa
    obtain ⟨⟨e0, e1, e2, e3⟩, -⟩ := row_facts HR1.out
    go_wp2_with fail
    go_ret2
    exact ⟨_, _, rfl, HF.out, HB1.out⟩
  · have hlz : (1024 : Int) < (l.length : Int) := by omega
    clear hbad hz hk
    go_enter Tryd.func19, Tryd.ntmps19
    go_wp2_with fail
    refine (HBa.out _).mono ?_; rintro e w1 ⟨rfl, hb⟩
    have HB1 := hid ((below_alloc w _).trans (hb.out.mono (by simp)))
    have HR1 := hid ((hb.out.block _ (by simp)).trans (HZ.out _))
    clear hb HBa
    obtain ⟨⟨e0, e1, e2, e3⟩, -⟩ := row_facts HR1.out
    go_wp2_with fail
    go_ret2
    exact ⟨_, _, rfl, HF.out, HB1.out⟩
theorem row_kept {w w' : World} {b : Nat} {o : Obj} (hb : Below w.heap.size w w') (h : w.heap[b]? = some o) : w'.heap[b]? = some o := (hb.block _ (Array.getElem?_eq_some_iff.1 h).1).trans h
set_option maxHeartbeats 4000000 in
set_option maxRecDepth 100000 in
theorem enc_list {j : Nat} (ih : REncAt j) (v : Value) (z : Int) (p : Option Addr) (l : List Rep) (d c : Nat) (w : World) (H : Boxed w v z 6 0 [] p l.length c) (hz : z = 4 - ((j + 1 : Nat) : Int)) (hj : j + 1 ≤ 4) (hR : RowOf All w (Rp All w d) p l) (hl : l.length ≤ 1024) (hc : 100 + (l.map (cost j)).sum ≤ 140737488300000) :
    Calls Tryd.prog 19 #[v, .int .i64 z] w fun e w' => ∃ (s : ByteArray) (b : Bool), e = .returned (.tuple #[.string s, .bool b]) ∧ Hid (EncOut (j + 1) (.mk 6 0 [] l) s b ∧ Below w.heap.size w w') := by
  have HBa := H.bare
  obtain rfl := H.shape
  have HZ := hid fun (o : Obj) => heap_alloc_new w o
  obtain ⟨Z1, hc1, hz1, hs1⟩ := cats [42] (Lib.itoa (l.length : Nat))
  obtain ⟨Z2, hc2, hz2, hs2⟩ := cats ([42] ++ Lib.itoa (l.length : Nat)) [13, 10]
  rw [← hz1] at hc2
  have hil := itoa_len (l.length : Nat) (by omega) (by omega)
  obtain ⟨T0, hT0⟩ : ∃ T0, T0 = ln 42 (Lib.itoa (l.length : Nat)) := ⟨_, rfl⟩
  have HT0 := hid hT0
  have HZ2 : Hid (Z2 = ⟨T0.toArray⟩) := by rw [hT0]; exact hz2
  have HT0l : Hid (T0.length ≤ 100) := by rw [hT0, ]; unfold Hid; simp [ln]; omega
  have hr : right (j + 1) (.mk 6 0 [] l) = true := by rw [right_mk]; simp [hl]
  have HE : Hid (enc (j + 1) (.mk 6 0 [] l) = (encAll (enc j) l).map (T0 ++ ·)) := by rw [hT0]; exact enc_many hr rfl
  have HDg := hid fun (W : World) => digits_any (l.length : Nat) W (by omega) (by omega)
  have hb1 : Z1.size ≤ 100 := by rw [hs1]; simp; omega
  generalize Lib.itoa (l.length : Nat) = T at hc1 HDg hil
  have hc1' : (⟨#[42]⟩ ++ ⟨T.toArray⟩ : ByteArray) = Z1 := hc1
  have hc2' : (Z1 ++ ⟨#[13, 10]⟩ : ByteArray) = Z2 := hc2
  have IH := hid ih
  have HR := hid hR
  have hz0 : 0 ≤ z := by omega
  have hz3 : z ≤ 3 := by omega
  have hz4 : ¬ 4 ≤ z := by omega
  have hlz : ¬ (1024 : Int) < (l.length : Int) := by omega
  have Hz := hid hz
  have HC0 := hid hc
  clear H hz1 hz2 hs1 hs2 hc1 hc2 hT0 hr ih hR hz hc
  go_enter Tryd.func19, Tryd.ntmps19
  go_wp2_with fail
  refine (HBa.out _).mono ?_; rintro e w1 ⟨rfl, hb⟩
  have HB1 := hid ((below_alloc w _).trans (hb.out.mono (by simp)))
  have HR1 := hid ((hb.out.block _ (by simp)).trans (HZ.out _))
  clear hb HBa
  obtain ⟨⟨e0, e1, e2, e3⟩, -⟩ := row_facts HR1.out
  go_wp2_with fail
  refine (HDg.out _).mono ?_; rintro e w2 ⟨rfl, hb⟩
  have HB2 := hid (HB1.out.trans (hb.mono HB1.out.size))
  have HR2 := hid (row_kept hb HR1.out)
  clear hb HDg e0 e1 e2 e3
  go_wp2_with fail
  go_loopw [6, 7] (fun v6 v7 W => ∃ (i : Nat) (y : List UInt8) (Z : ByteArray), v7 = .int .i64 i ∧ i ≤ l.length ∧ v6 = .string Z ∧ Hid (Z = ⟨(T0 ++ y).toArray⟩) ∧ Hid ((∀ z, encAll (enc j) (l.drop i) = some z → encAll (enc j) l = some (y ++ z)) ∧ (encAll (enc j) (l.drop i) = none → encAll (enc j) l = none)) ∧ Hid (T0.length + y.length + ((l.drop i).map (cost j)).sum ≤ 140737488300000) ∧ Hid (W.heap[w.heap.size]? = some (.cells #[.int .i64 6, .int .i64 0, .string ⟨#[]⟩, .slice p l.length c] 24 (0, 0))) ∧ Hid (Below w.heap.size w W)) (fun _ v7 _ => l.length - (intOf v7).toNat)
  case atStart => exact ⟨0, [], Z2, rfl, Nat.zero_le _, rfl, by rw [List.append_nil]; exact HZ2.out, ⟨fun z hz => by simpa using hz, fun hz => by simpa using hz⟩, by have h1 := HT0l.out; have h2 := HC0.out; unfold Hid; simp; omega, HR2.out, HB2.out⟩
  case round =>
    obtain ⟨i, y, Z, rfl, hi, rfl, HZe, HQ, HC, HRw, HB⟩ := hrel
    obtain ⟨⟨e0, e1, e2, e3⟩, -⟩ := row_facts HRw.out
    by_cases hlt : i < l.length
    · have hltz : (i : Int) < (l.length : Int) := by omega
      obtain ⟨b1, o1, rfl, -, hx1⟩ := HR.out (fun e => by rw [e] at hlt; simp at hlt)
      obtain ⟨q1, m1, c10, c11, c12, c13, R1⟩ := hx1 i hlt
      have hB1 := block_lt_of_cell c10
      rw [← HB.out.cell (p := ⟨b1, o1 + i * 4, none⟩) hB1] at c10
      rw [← HB.out.cell (p := ⟨b1, o1 + i * 4 + 1, none⟩) hB1] at c11
      rw [← HB.out.cell (p := ⟨b1, o1 + i * 4 + 2, none⟩) hB1] at c12
      rw [← HB.out.cell (p := ⟨b1, o1 + i * 4 + 3, none⟩) hB1] at c13
      have hds := List.drop_eq_getElem_cons hlt
      have HC1 : Hid (T0.length + y.length + (cost j l[i] + ((l.drop (i + 1)).map (cost j)).sum) ≤ 140737488300000) := by
        have := HC.out
        rw [hds, List.map_cons, List.sum_cons] at this
        exact this
      have HCall := hid (IH.out (z + 1) _ l[i] d wr (by have := Hz.out; omega) (by omega) (R1.below HB.out (Nat.le_refl _)) (by have := HC1.out; omega))
      have HS := hid hds
      have HF := hid (R1.fits j)
      generalize l[i] = x at *
      clear hx1 R1 hds hB1
      go_wp2_with fail
      refine HCall.out.mono ?_; rintro e w4 ⟨s4, b, rfl, hh⟩
      have HH := hid hh.out.1
      have HB4 := hid (HB.out.trans (hh.out.2.mono HB.out.size))
      have HR4 := hid (row_kept hh.out.2 HRw.out)
      clear hh HCall
      cases hx : enc j x with
      | none =>
        obtain rfl := HH.out.2 hx
        have HN : Hid (enc (j + 1) (.mk 6 0 [] l) = none) := by rw [HE.out, HQ.out.2 (by rw [HS.out]; exact encAll_stop hx)]; rfl
        clear hx
        go_wp2_with fail
        go_ret2
        exact ⟨_, _, rfl, EncOut.none HN.out, HB4.out⟩
      | some x' =>
        obtain ⟨rfl, hs4⟩ := HH.out.1 x' hx
        have hxl := enc_len HF.out hx
        obtain ⟨Z', hcz, hz', _⟩ := cats (T0 ++ y) x'
        have hcz' : Z ++ s4 = Z' := by rw [HZe.out, hs4]; exact hcz
        have hsz : Z.size + s4.size ≤ 140737488300000 := by rw [HZe.out, hs4, sz, sz, List.length_append]; have := HC1.out; omega
        have hadd := add_run Z s4 Z' hcz' (by omega)
        have HZ' : Hid (Z' = ⟨(T0 ++ (y ++ x')).toArray⟩) := by unfold Hid; rw [hz', List.append_assoc]
        have HQ2 : Hid ((∀ z, encAll (enc j) (l.drop (i + 1)) = some z → encAll (enc j) l = some ((y ++ x') ++ z)) ∧ (encAll (enc j) (l.drop (i + 1)) = none → encAll (enc j) l = none)) := by
          have h1 := HQ.out
          rw [HS.out, encAll_cons hx] at h1
          refine ⟨fun z hz => ?_, fun hz => h1.2 (by rw [hz]; rfl)⟩
          have := h1.1 (x' ++ z) (by rw [hz]; rfl)
          rw [this, List.append_assoc]
        have HC2 : Hid (T0.length + (y ++ x').length + ((l.drop (i + 1)).map (cost j)).sum ≤ 140737488300000) := by
          have h1 := HC1.out
          unfold Hid
          rw [List.length_append]
          omega
        have hszz : Z.size + s4.size ≤ 9223372036854775807 := by omega
        clear hx HH hxl hcz hz' hs4 hsz
        go_wp2_with fail
        refine ⟨⟨i + 1, y ++ x', Z', by go_num, by omega, ?_, HZ'.out, HQ2.out, HC2.out, HR4.out, HB4.out⟩, by simp [intOf]; omega⟩
        first | rfl | simp [hcz']
    · have hd : l.drop i = [] := List.drop_eq_nil_of_le (by omega)
      have HN : Hid (enc (j + 1) (.mk 6 0 [] l) = some (T0 ++ y)) := by
        have := HQ.out.1 [] (by rw [hd]; rfl)
        rw [List.append_nil] at this
        rw [HE.out, this]; rfl
      clear hd
      go_wp2_with fail
      go_ret2
      exact ⟨_, _, rfl, EncOut.some HN.out HZe.out, HB.out⟩
set_option maxHeartbeats 2000000 in
set_option maxRecDepth 100000 in
theorem enc_notbare (k : Nat) (v : Value) (z kd n : Int) (t : List UInt8) (p : Option Addr) (l : List Rep) (c : Nat) (w : World) (hv : v = .agg #[.int .i64 kd, .int .i64 n, .string ⟨t.toArray⟩, .slice p l.length c]) (HBa : Hid (∀ o, Calls Tryd.prog 28 #[v] (w.alloc o) fun e w' => e = .returned (.bool false) ∧ Hid (Below (w.alloc o).heap.size (w.alloc o) w'))) (hb : bareB (.mk kd n t l) = false) :
    Calls Tryd.prog 19 #[v, .int .i64 z] w fun e w' => ∃ (s : ByteArray) (b : Bool), e = .returned (.tuple #[.string s, .bool b]) ∧ Hid (EncOut k (.mk kd n t l) s b ∧ Below w.heap.size w w') := by
  have HF : Hid (EncOut k (.mk kd n t l) ⟨#[]⟩ false) := EncOut.none (enc_none (bare_right hb))
  subst hv
  clear hb
  go_enter Tryd.func19, Tryd.ntmps19
  go_wp2_with fail
  refine (HBa.out _).mono ?_; rintro e w1 ⟨rfl, hb⟩
  have HB1 := hid ((below_alloc w _).trans (hb.out.mono (by simp)))
  clear hb HBa
  go_wp2_with fail
  go_ret2
  exact ⟨_, _, rfl, HF.out, HB1.out⟩
theorem renc_of {k : Nat} (ih : ∀ j, k = j + 1 → REncAt j) : REncAt k := by
  intro z v r d w hz hk h hc
  have hc1 := cost_text k r
  obtain ⟨d', p, c, rfl, hv, f, R⟩ := h.open
  have HB := hid fun (o : Obj) => bare_any v r _ (w.alloc o) (h.below (below_alloc w o) (Nat.le_refl _))
  obtain ⟨kd, n, t, l⟩ := r
  cases hb : bareB (.mk kd n t l)
  · rw [hb] at HB
    exact enc_notbare k v z kd n t p l c w hv HB hb
  · rw [hb] at HB
    have H : Boxed w v z kd n t p l.length c := ⟨hv, HB⟩
    have htl : t.length ≤ 140737488300000 := by simp only [Rep.text] at hc1; omega
    obtain ⟨b1, b2, b3⟩ := bare_cases hb
    by_cases h1 : kd = 1
    · subst h1
      obtain rfl : n = 0 := by rcases b2 with h | h; exact absurd h (by decide); exact h
      obtain rfl : l = [] := by rcases b3 with h | h; exact absurd h (by decide); exact h
      exact enc_line k 1 43 (.inl ⟨rfl, rfl⟩) v z t p c w H htl
    by_cases h2 : kd = 2
    · subst h2
      obtain rfl : n = 0 := by rcases b2 with h | h; exact absurd h (by decide); exact h
      obtain rfl : l = [] := by rcases b3 with h | h; exact absurd h (by decide); exact h
      exact enc_line k 2 45 (.inr ⟨rfl, rfl⟩) v z t p c w H htl
    by_cases h4 : kd = 4
    · subst h4
      obtain rfl : n = 0 := by rcases b2 with h | h; exact absurd h (by decide); exact h
      obtain rfl : l = [] := by rcases b3 with h | h; exact absurd h (by decide); exact h
      exact enc_bulk k v z t p c w H htl
    obtain rfl : t = [] := by
      rcases b1 with (h | h | h) | h
      · exact absurd h h1
      · exact absurd h h2
      · exact absurd h h4
      · exact h
    by_cases h3 : kd = 3
    · subst h3
      obtain rfl : l = [] := by rcases b3 with h | h; exact absurd h (by decide); exact h
      exact enc_whole k v z n p c w H f.n0 f.n1
    obtain rfl : n = 0 := by rcases b2 with h | h; exact absurd h h3; exact h
    by_cases h6 : kd = 6
    · subst h6
      by_cases hbad : k = 0 ∨ 1024 < l.length
      · exact enc_bad k v z p l c w H hz f.l hbad hk
      · obtain ⟨j, rfl⟩ : ∃ j, k = j + 1 := ⟨k - 1, by omega⟩
        refine enc_list (ih j rfl) v z p l d' c w H hz hk R (by omega) ?_
        have h2 := hc
        unfold cost at h2
        simp only [Rep.text, Rep.list, List.length_nil] at h2
        omega
    · by_cases h5 : kd = 5
      · subst h5
        obtain rfl : l = [] := by rcases b3 with h | h; exact absurd h (by decide); exact h
        exact enc_nil k v z p c w H
      · exact enc_other k v z kd 0 [] p l c w H h1 h2 h3 h4 h5 h6
theorem renc_at : ∀ k, REncAt k
  | 0 => renc_of fun j h => absurd h (by omega)
  | k + 1 => renc_of fun j h => by
    obtain rfl : k = j := by omega
    exact renc_at k
set_option maxHeartbeats 2000000 in
set_option maxRecDepth 100000 in
/-- ref Encode -/
theorem rencode_any (v : Value) (r : Rep) (d : Nat) (w : World) (h : Rp All w d v r) (hc : cost 4 r ≤ 140737488300000) :
    Calls Tryd.prog 12 #[v] w fun e w' => e = .returned (encOut r) ∧ Hid (Below w.heap.size w w') := by
  have HA := hid fun (o : Obj) => renc_at 4 0 v r d (w.alloc o) (by decide) (by decide) (h.below (below_alloc w o) (Nat.le_refl _)) hc
  obtain ⟨V, hV⟩ : ∃ V, V = encOut r := ⟨_, rfl⟩
  rw [← hV]
  have HV := hid hV
  obtain ⟨d, p, c, rfl, rfl, f, R⟩ := h.open
  clear h hc hV f R
  go_enter Tryd.func12, Tryd.ntmps12
  go_wp2_with fail
  refine (HA.out _).mono ?_; rintro e w3 ⟨s, b, rfl, hh⟩
  have HH := hid hh.out.1
  have HB := hid ((below_alloc w _).trans (hh.out.2.mono (by simp)))
  clear hh HA
  cases hx : enc 4 r with
  | none =>
    obtain rfl := HH.out.2 hx
    have HV2 := hid (HV.out.trans (encOut_none hx))
    clear hx HV
    go_wp2_with fail
    go_ret2
    exact ⟨by rw [HV2.out]; rfl, HB.out⟩
  | some x =>
    obtain ⟨rfl, rfl⟩ := HH.out.1 x hx
    have HV2 := hid (HV.out.trans (encOut_some hx))
    clear hx HV
    go_wp2_with fail
    go_ret2
    exact ⟨by rw [HV2.out]; rfl, HB.out⟩

end Go.Proofs.YtngkbacnajgmcaaDoor
