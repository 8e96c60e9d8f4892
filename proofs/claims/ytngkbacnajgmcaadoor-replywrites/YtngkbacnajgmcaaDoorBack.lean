/- What is written is read as it was, and no shorter beginning of it is: plain mathematics. -/
import Derived.Test.YtngkbacnajgmcaaDoorLined
namespace Go.Proofs.YtngkbacnajgmcaaDoor

theorem ln_len (c : UInt8) (t : List UInt8) : (ln c t).length = t.length + 3 := by simp [ln]
theorem cutLn_ln {c : UInt8} {t : List UInt8} {room : Nat} (more : List UInt8) (hm : may c room = true) (h10 : 10 ∉ t) (hl : t.length ≤ 509) : cutLn (ln c t ++ more) room = .ok (c :: t) more := by
  have hc := may_not hm
  have e : ln c t ++ more = (c :: t ++ [13]) ++ 10 :: more := by simp [ln]
  have hp : 10 ∉ (c :: t ++ [13]) := by simp [h10, Ne.symm hc.2]
  have hpl : (c :: t ++ [13]).length = t.length + 2 := by simp
  have hi : Lib.indexByte ((ln c t ++ more).take 512) 10 = ((t.length + 2 : Nat) : Int) := by
    have : (ln c t ++ more).take 512 = (c :: t ++ [13]) ++ 10 :: more.take (512 - (t.length + 3)) := by
      rw [e, List.take_append, List.take_of_length_le (by omega), hpl, show 512 - (t.length + 2) = (512 - (t.length + 3)) + 1 by omega, List.take_succ_cons]
    rw [this, index_at 10 _ _ hp, hpl]
  have h0 : 0 < (ln c t ++ more).length := by simp [ln]
  have hm' : may (ln c t ++ more)[0] room = true := by
    have : (ln c t ++ more)[0] = c := by simp [ln]
    rw [this]; exact hm
  have htk : (ln c t ++ more).take (t.length + 2 + 1) = ln c t := by
    rw [List.take_append_of_le_length (by rw [ln_len]; omega), List.take_of_length_le (by rw [ln_len]; omega)]
  have hsf : Lib.hasSuffix ((ln c t ++ more).take (t.length + 2 + 1)) [13, 10] = true := by
    rw [htk]
    unfold Lib.hasSuffix ln
    rw [List.isSuffixOf_iff_suffix]
    exact ⟨[c] ++ t, rfl⟩
  rw [cutLn_got h0 hm' hi hsf]
  congr 1
  · have : ln c t ++ more = (c :: t) ++ ([13, 10] ++ more) := by simp [ln]
    rw [this, List.take_append_of_le_length (by simp), List.take_of_length_le (by simp)]
  · have : ln c t ++ more = (ln c t) ++ more := rfl
    rw [List.drop_append, List.drop_of_length_le (by rw [ln_len]; omega), ln_len]
    simp
theorem cutLn_part {c : UInt8} {t : List UInt8} {room n : Nat} (hm : may c room = true) (h10 : 10 ∉ t) (hl : t.length ≤ 509) (hn : n < (ln c t).length) : cutLn ((ln c t).take n) room = .bad 40 := by
  have hc := may_not hm
  rw [ln_len] at hn
  cases n with
  | zero => rfl
  | succ n =>
    have e : (ln c t).take (n + 1) = (c :: t ++ [13]).take (n + 1) := by
      have : ln c t = (c :: t ++ [13]) ++ [10] := by simp [ln]
      rw [this, List.take_append_of_le_length (by simp; omega)]
    have hlen : ((ln c t).take (n + 1)).length < 512 := by rw [List.length_take, ln_len]; omega
    have h0 : 0 < ((ln c t).take (n + 1)).length := by rw [List.length_take, ln_len]; omega
    refine cutLn_short h0 ?_ ?_ (by omega)
    · have : ((ln c t).take (n + 1))[0] = c := by simp [ln]
      rw [this]; exact hm
    · rw [List.take_of_length_le (by omega), index_none 10 _ (fun m => ?_)]
      · decide
      · rw [e] at m
        have m2 := List.mem_of_mem_take m
        simp [h10, Ne.symm hc.2] at m2
theorem num_itoa {v a b : Int} (h0 : -9223372036854775808 ≤ v) (h1 : v ≤ 9223372036854775807) (ha : a ≤ v) (hb : v ≤ b) : num (Lib.itoa v) a b = some v := by
  unfold num
  rw [atoi_itoa v h0 h1]
  simp only
  rw [if_pos ⟨trivial, ha, hb⟩]
theorem may43 (k : Nat) : may 43 k = true := by simp [may]
theorem may45 (k : Nat) : may 45 k = true := by simp [may]
theorem may58 (k : Nat) : may 58 k = true := by simp [may]
theorem may36 (k : Nat) : may 36 k = true := by simp [may]
theorem may42 (k : Nat) : may 42 (k + 1) = true := by simp [may]
theorem no10 (v : Int) : 10 ∉ Lib.itoa v := itoa_no v 10 (by decide)
theorem body_4 (n : Int) (t : List UInt8) (l : List Rep) : body (.mk 4 n t l) = ln 36 (Lib.itoa (t.length : Nat)) ++ (t ++ [13, 10]) := by simp [body, Rep.kind, Rep.text, List.append_assoc]
theorem rdBulk_back {t more : List UInt8} (ht : t.length ≤ 65536) : rdBulk (Lib.itoa (t.length : Nat)) (t ++ [13, 10] ++ more) = .got (.mk 4 0 t []) more := by
  rw [rdBulk_some (itoa_not _) (num_itoa (by omega) (by omega) (by omega) (by omega)), if_neg (by simp)]
  have e : (t ++ [13, 10] ++ more).drop t.length = [13, 10] ++ more := by rw [List.append_assoc, List.drop_left]
  have e2 : (([13, 10] : List UInt8) ++ more).take 2 = [13, 10] := rfl
  rw [e, e2, if_pos (by decide), if_pos rfl]
  congr 1
  · rw [List.append_assoc, List.take_left]
  · rw [← List.drop_drop, e]
    rfl
theorem rdBulk_part {t : List UInt8} {n : Nat} (ht : t.length ≤ 65536) (hn : n < t.length + 2) : rdBulk (Lib.itoa (t.length : Nat)) ((t ++ [13, 10]).take n) = .bad 40 := by
  rw [rdBulk_some (itoa_not _) (num_itoa (by omega) (by omega) (by omega) (by omega))]
  by_cases h : ((t ++ [13, 10]).take n).length < t.length
  · rw [if_pos h]
  · rw [if_neg h]
    rw [List.length_take, List.length_append] at h
    simp at h
    rcases (show n = t.length ∨ n = t.length + 1 by omega) with rfl | rfl
    · rw [List.take_left, List.drop_length]; rfl
    · have e : (t ++ [13, 10]).take (t.length + 1) = t ++ [13] := by rw [List.take_append, List.take_of_length_le (by omega)]; simp
      rw [e, List.drop_left]; rfl
/-- a writing is read as it was -/
theorem rdAll_back {f : Rep → Option (List UInt8)} {g : List UInt8 → Res} : ∀ {l : List Rep} {y : List UInt8} (more : List UInt8), (∀ r ∈ l, ∀ x more, f r = some x → g (x ++ more) = .got r more) → encAll f l = some y → rdAll g l.length (y ++ more) = .got l more
  | [], y, more, _, h => by
    unfold encAll at h
    injection h with h
    rw [← h]; rfl
  | r :: l, y, more, hf, h => by
    cases hr : f r with
    | none => rw [encAll_stop hr] at h; cases h
    | some x =>
      rw [encAll_cons hr] at h
      cases hl : encAll f l with
      | none => rw [hl] at h; cases h
      | some z =>
        rw [hl] at h
        injection h with h
        rw [← h]
        show rdAll g (l.length + 1) (x ++ z ++ more) = _
        rw [List.append_assoc, rdAll_step (hf r (by simp) x _ hr), rdAll_back more (fun r hr => hf r (by simp [hr])) hl]
theorem rd_back : ∀ {k : Nat} {r : Rep} {x : List UInt8} (more : List UInt8), Fits k r → enc k r = some x → rd k (x ++ more) = .got r more := by
  intro k
  induction k with
  | zero =>
    intro r x more f h
    cases hr : right 0 r
    · rw [enc_none hr] at h; cases h
    · obtain ⟨kd, n, t, l⟩ := r
      have ff := f.fit
      have hn0 : -9223372036854775808 ≤ n := ff.n0
      have hn1 : n ≤ 9223372036854775807 := ff.n1
      rcases right_cases hr with ⟨rfl, hp, rfl, rfl⟩ | ⟨rfl, hp, rfl, rfl⟩ | ⟨rfl, rfl, rfl⟩ | ⟨rfl, ht, rfl, rfl⟩ | ⟨rfl, rfl, rfl, rfl⟩ | ⟨rfl, h1024, h0k, rfl, rfl⟩
      · rw [enc_flat hr (by simp [Rep.kind])] at h
        injection h with h
        rw [← h]
        show rd 0 (ln 43 t ++ more) = _
        rw [rd_line (cutLn_ln more (may43 0) hp.2.2 hp.1), kind43, if_pos hp]
      · rw [enc_flat hr (by simp [Rep.kind])] at h
        injection h with h
        rw [← h]
        show rd 0 (ln 45 t ++ more) = _
        rw [rd_line (cutLn_ln more (may45 0) hp.2.2 hp.1), kind45, if_pos hp]
      · rw [enc_flat hr (by simp [Rep.kind])] at h
        injection h with h
        rw [← h]
        show rd 0 (ln 58 (Lib.itoa n) ++ more) = _
        have hil : (Lib.itoa n).length ≤ 21 := itoa_len n ff.n0 ff.n1
        rw [rd_line (cutLn_ln more (may58 0) (no10 n) (by omega)), kind58, num_itoa hn0 hn1 hn0 hn1]
      · rw [enc_flat hr (by simp [Rep.kind])] at h
        injection h with h
        have hil := itoa_len (t.length : Nat) (by omega) (by omega)
        rw [← h, body_4, List.append_assoc, rd_line (cutLn_ln _ (may36 0) (no10 _) (by omega)), kind36, rdBulk_back ht]
      · rw [enc_flat hr (by simp [Rep.kind])] at h
        injection h with h
        rw [← h]
        show rd 0 (ln 36 [45, 49] ++ more) = _
        rw [rd_line (cutLn_ln more (may36 0) (by decide) (by decide)), kind36]
        rfl
      · omega
  | succ k ih =>
    intro r x more f h
    cases hr : right (k + 1) r
    · rw [enc_none hr] at h; cases h
    · obtain ⟨kd, n, t, l⟩ := r
      have ff := f.fit
      have hn0 : -9223372036854775808 ≤ n := ff.n0
      have hn1 : n ≤ 9223372036854775807 := ff.n1
      rcases right_cases hr with ⟨rfl, hp, rfl, rfl⟩ | ⟨rfl, hp, rfl, rfl⟩ | ⟨rfl, rfl, rfl⟩ | ⟨rfl, ht, rfl, rfl⟩ | ⟨rfl, rfl, rfl, rfl⟩ | ⟨rfl, h1024, h0k, rfl, rfl⟩
      · rw [enc_flat hr (by simp [Rep.kind])] at h
        injection h with h
        rw [← h]
        show rd (k + 1) (ln 43 t ++ more) = _
        rw [rd_line (cutLn_ln more (may43 _) hp.2.2 hp.1), kind43, if_pos hp]
      · rw [enc_flat hr (by simp [Rep.kind])] at h
        injection h with h
        rw [← h]
        show rd (k + 1) (ln 45 t ++ more) = _
        rw [rd_line (cutLn_ln more (may45 _) hp.2.2 hp.1), kind45, if_pos hp]
      · rw [enc_flat hr (by simp [Rep.kind])] at h
        injection h with h
        rw [← h]
        show rd (k + 1) (ln 58 (Lib.itoa n) ++ more) = _
        have hil : (Lib.itoa n).length ≤ 21 := itoa_len n ff.n0 ff.n1
        rw [rd_line (cutLn_ln more (may58 _) (no10 n) (by omega)), kind58, num_itoa hn0 hn1 hn0 hn1]
      · rw [enc_flat hr (by simp [Rep.kind])] at h
        injection h with h
        have hil := itoa_len (t.length : Nat) (by omega) (by omega)
        rw [← h, body_4, List.append_assoc, rd_line (cutLn_ln _ (may36 _) (no10 _) (by omega)), kind36, rdBulk_back ht]
      · rw [enc_flat hr (by simp [Rep.kind])] at h
        injection h with h
        rw [← h]
        show rd (k + 1) (ln 36 [45, 49] ++ more) = _
        rw [rd_line (cutLn_ln more (may36 _) (by decide) (by decide)), kind36]
        rfl
      · rw [enc_many hr rfl] at h
        simp only [Rep.list] at h
        cases hl : encAll (enc k) l with
        | none => rw [hl] at h; cases h
        | some y =>
          rw [hl] at h
          injection h with h
          have hil := itoa_len (l.length : Nat) (by omega) (by omega)
          rw [← h, List.append_assoc, rd_line (cutLn_ln _ (may42 _) (no10 _) (by omega)), kind42, rdList_some (num_itoa (by omega) (by omega) (by omega) (by omega))]
          show (match rdAll (rd k) l.length (y ++ more) with | .got l rest' => Res.got (.mk 6 0 [] l) rest' | .bad e => .bad e) = _
          rw [rdAll_back (l := l) more (fun r hr x more hx => ih more (f.2 r hr) hx) hl]
/-- no shorter beginning of a writing is one -/
theorem rdAll_part {f : Rep → Option (List UInt8)} {g : List UInt8 → Res} : ∀ {l : List Rep} {y : List UInt8} {n : Nat}, (∀ r ∈ l, ∀ x more, f r = some x → g (x ++ more) = .got r more) → (∀ r ∈ l, ∀ x n, f r = some x → n < x.length → g (x.take n) = .bad 40) → encAll f l = some y → n < y.length → rdAll g l.length (y.take n) = .bad 40
  | [], y, n, _, _, h, hn => by
    unfold encAll at h
    injection h with h
    rw [← h] at hn
    simp at hn
  | r :: l, y, n, hf, hg, h, hn => by
    cases hr : f r with
    | none => rw [encAll_stop hr] at h; cases h
    | some x =>
      rw [encAll_cons hr] at h
      cases hl : encAll f l with
      | none => rw [hl] at h; cases h
      | some z =>
        rw [hl] at h
        injection h with h
        have h : x ++ z = y := h
        show rdAll g (l.length + 1) (y.take n) = _
        rw [← h] at hn ⊢
        by_cases hx : n < x.length
        · rw [List.take_append_of_le_length (by omega)]
          exact rdAll_stop (hg r (by simp) x n hr hx)
        · rw [List.take_append, List.take_of_length_le (by omega), rdAll_step (hf r (by simp) x _ hr), rdAll_part (fun r hr => hf r (by simp [hr])) (fun r hr => hg r (by simp [hr])) hl (by simp at hn; omega)]
theorem rd_part : ∀ {k : Nat} {r : Rep} {x : List UInt8} {m : Nat}, Fits k r → enc k r = some x → m < x.length → rd k (x.take m) = .bad 40 := by
  have flat : ∀ (k : Nat) (kd n : Int) (t : List UInt8) (l : List Rep) (x : List UInt8) (m : Nat), Fit (.mk kd n t l) → right k (.mk kd n t l) = true → ¬ kd = 6 → enc k (.mk kd n t l) = some x → m < x.length → rd k (x.take m) = .bad 40 := by
    intro k kd n t l x m ff hr h6 h hm
    rw [enc_flat hr h6] at h
    injection h with h
    rcases right_cases hr with ⟨rfl, hp, rfl, rfl⟩ | ⟨rfl, hp, rfl, rfl⟩ | ⟨rfl, rfl, rfl⟩ | ⟨rfl, ht, rfl, rfl⟩ | ⟨rfl, rfl, rfl, rfl⟩ | ⟨rfl, h1024, h0k, rfl, rfl⟩
    · have h : ln 43 t = x := h
      rw [← h] at hm ⊢
      exact rd_cut (cutLn_part (may43 k) hp.2.2 hp.1 hm)
    · have h : ln 45 t = x := h
      rw [← h] at hm ⊢
      exact rd_cut (cutLn_part (may45 k) hp.2.2 hp.1 hm)
    · have h : ln 58 (Lib.itoa n) = x := h
      rw [← h] at hm ⊢
      have hil : (Lib.itoa n).length ≤ 21 := itoa_len n ff.n0 ff.n1
      exact rd_cut (cutLn_part (may58 k) (no10 n) (by omega) hm)
    · rw [body_4] at h
      have hil := itoa_len (t.length : Nat) (by omega) (by omega)
      rw [← h] at hm ⊢
      by_cases hx : m < (ln 36 (Lib.itoa (t.length : Nat))).length
      · rw [List.take_append_of_le_length (by omega)]
        exact rd_cut (cutLn_part (may36 k) (no10 _) (by omega) hx)
      · rw [List.take_append, List.take_of_length_le (by omega), rd_line (cutLn_ln _ (may36 k) (no10 _) (by omega)), kind36]
        exact rdBulk_part ht (by rw [List.length_append, List.length_append] at hm; simp only [List.length_cons, List.length_nil] at hm; omega)
    · have h : ln 36 [45, 49] = x := h
      rw [← h] at hm ⊢
      exact rd_cut (cutLn_part (may36 k) (by decide) (by decide) hm)
    · exact absurd rfl h6
  intro k
  induction k with
  | zero =>
    intro r x m f h hm
    cases hr : right 0 r
    · rw [enc_none hr] at h; cases h
    · obtain ⟨kd, n, t, l⟩ := r
      refine flat 0 kd n t l x m f.fit hr (fun e => ?_) h hm
      subst e
      rcases right_cases hr with ⟨e, _⟩ | ⟨e, _⟩ | ⟨e, _⟩ | ⟨e, _⟩ | ⟨e, _⟩ | ⟨_, _, h0, _⟩
      all_goals first | exact absurd e (by decide) | omega
  | succ k ih =>
    intro r x m f h hm
    cases hr : right (k + 1) r
    · rw [enc_none hr] at h; cases h
    · obtain ⟨kd, n, t, l⟩ := r
      by_cases h6 : kd = 6
      · subst h6
        rw [enc_many hr rfl] at h
        simp only [Rep.list] at h
        obtain ⟨h1024, _⟩ : l.length ≤ 1024 ∧ True := by
          rcases right_cases hr with ⟨e, _⟩ | ⟨e, _⟩ | ⟨e, _⟩ | ⟨e, _⟩ | ⟨e, _⟩ | ⟨_, h1, _⟩
          all_goals first | exact ⟨h1, trivial⟩ | exact absurd e (by decide)
        cases hl : encAll (enc k) l with
        | none => rw [hl] at h; cases h
        | some y =>
          rw [hl] at h
          injection h with h
          have h : ln 42 (Lib.itoa (l.length : Nat)) ++ y = x := h
          have hil := itoa_len (l.length : Nat) (by omega) (by omega)
          rw [← h] at hm ⊢
          by_cases hx : m < (ln 42 (Lib.itoa (l.length : Nat))).length
          · rw [List.take_append_of_le_length (by omega)]
            exact rd_cut (cutLn_part (may42 k) (no10 _) (by omega) hx)
          · rw [List.take_append, List.take_of_length_le (by omega), rd_line (cutLn_ln _ (may42 _) (no10 _) (by omega)), kind42, rdList_some (num_itoa (by omega) (by omega) (by omega) (by omega))]
            show (match rdAll (rd k) l.length (y.take (m - (ln 42 (Lib.itoa (l.length : Nat))).length)) with | .got l rest' => Res.got (.mk 6 0 [] l) rest' | .bad e => .bad e) = _
            rw [rdAll_part (l := l) (fun r hr x more hx => rd_back more (f.2 r hr) hx) (fun r hr x n hx hn => ih (f.2 r hr) hx hn) hl (by rw [List.length_append] at hm; omega)]
      · exact flat (k + 1) kd n t l x m f.fit hr h6 h hm

end Go.Proofs.YtngkbacnajgmcaaDoor
