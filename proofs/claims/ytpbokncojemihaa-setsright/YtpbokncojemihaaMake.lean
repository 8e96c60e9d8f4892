/- Make and Has: the library's copy, sort, compaction and search of texts. -/
import Derived.Test.YtpbokncojemihaaShelf
import Derived.Test.YtpbokncojemihaaShelfB
import Derived.Test.YtpbokncojemihaaMethB
import Derived.Sort.OwnSorted
import Derived.Lib.OwnBridge
import Derived.Lib.RowBridge
namespace Go.Proofs.Ytpbokncojemihaa
open Go.RowKit Go.Sort

/-- a row behind the sort -/
def srtR (l : Row) : Row := l.mergeSort (fun x y => decide (x ≤ y))
theorem srtR_len (l : Row) : (srtR l).length = l.length := by simp [srtR]
theorem srtR_mem (l : Row) (x : Nm) : x ∈ srtR l ↔ x ∈ l := (List.mergeSort_perm l _).mem_iff
theorem srtR_up (l : Row) : (srtR l).Pairwise (fun a b => ¬ b < a) := by
  have h1 : (srtR l).Pairwise (fun a b => decide (a ≤ b) = true) := List.pairwise_mergeSort (le := fun x y : Nm => decide (x ≤ y)) (fun a b c h k => by
    simp only [decide_eq_true_eq] at h k ⊢
    exact List.le_trans h k) (fun a b => by
    simp only [Bool.or_eq_true, decide_eq_true_eq]
    exact List.le_total a b) l
  exact h1.imp (fun {a b} h => by
    simp only [decide_eq_true_eq] at h
    exact h)
/-- of texts that rise, those that are not like the one ahead of them -/
theorem compact_up (zs : Row) (hs : zs.Pairwise (fun a b => ¬ b < a)) : ∀ m, m ≤ zs.length → Ris (Lib.compactUpTo zs.toArray m) ∧ ∀ x, x ∈ Lib.compactUpTo zs.toArray m ↔ x ∈ zs.take m
  | 0, _ => ⟨by simp [Lib.compactUpTo, Ris], fun x => by simp [Lib.compactUpTo]⟩
  | m + 1, hm => by
    obtain ⟨ih1, ih2⟩ := compact_up zs hs m (by omega)
    have hlt : m < zs.length := by omega
    have hd : zs.toArray[m]! = zs[m] := by simp [hlt]
    rw [Lib.compactUpTo_succ, hd, List.take_succ_eq_append_getElem hlt]
    by_cases hk : Lib.keeps zs.toArray m = true
    · rw [if_pos hk]
      have hup : ∀ y ∈ Lib.compactUpTo zs.toArray m, y < zs[m] := fun y hy => by
        obtain ⟨i, hi, rfl⟩ := List.mem_iff_getElem.1 ((ih2 y).1 hy)
        have hi' : i < m := by simp at hi; omega
        rw [List.getElem_take]
        have h1 : ¬ zs[m] < zs[i] := (List.pairwise_iff_getElem.1 hs) i m (by omega) hlt hi'
        rcases nm_lt_or zs[i] zs[m] with g | g | g
        · exact g
        · exfalso
          have hp : m - 1 < zs.length := by omega
          have hne : zs[m] ≠ zs[m - 1] := by
            have := hk
            simp only [Lib.keeps, decide_eq_true_eq] at this
            rcases this with h0 | h0
            · omega
            · rw [hd, show zs.toArray[m - 1]! = zs[m - 1] by simp [hp]] at h0
              exact h0
          have h2 : ¬ zs[m] < zs[m - 1] := (List.pairwise_iff_getElem.1 hs) (m - 1) m hp hlt (by omega)
          have h3 : ¬ zs[m - 1] < zs[m] := by
            rw [← g]
            by_cases e : i = m - 1
            · subst e; exact nm_lt_irrefl _
            · exact (List.pairwise_iff_getElem.1 hs) i (m - 1) (by omega) hp (by omega)
          rcases nm_lt_or zs[m] zs[m - 1] with k | k | k
          · exact h2 k
          · exact hne k
          · exact h3 k
        · exact absurd g h1
      refine ⟨?_, fun x => ?_⟩
      · unfold Ris
        rw [List.pairwise_append]
        exact ⟨ih1, List.pairwise_singleton _ _, fun a ha b hb => by rw [List.mem_singleton.1 hb]; exact hup a ha⟩
      · rw [List.mem_append, List.mem_append, ih2]
    · rw [if_neg hk, List.append_nil]
      refine ⟨ih1, fun x => ?_⟩
      rw [ih2, List.mem_append]
      have hk' : ¬ (m = 0 ∨ zs.toArray[m]! ≠ zs.toArray[m - 1]!) := fun h => hk (by simp only [Lib.keeps, decide_eq_true_eq]; exact h)
      have hm0 : m ≠ 0 := fun h => hk' (.inl h)
      have hp : m - 1 < zs.length := by omega
      have he : zs[m] = zs[m - 1] := by
        have h0 : zs.toArray[m]! = zs.toArray[m - 1]! := Classical.byContradiction fun h => hk' (.inr h)
        rw [hd, show zs.toArray[m - 1]! = zs[m - 1] by simp [hp]] at h0
        exact h0
      constructor
      · exact fun h => .inl h
      · rintro (h | h)
        · exact h
        · rw [List.mem_singleton.1 h, he]
          exact List.mem_iff_getElem.2 ⟨m - 1, by simp; omega, by rw [List.getElem_take]⟩
theorem compact_mk (l : Row) : Lib.compact (srtR l) = mk l := by
  obtain ⟨h1, h2⟩ := compact_up (srtR l) (srtR_up l) (srtR l).length (Nat.le_refl _)
  refine h1.ext (Ris.mk l) fun x => ?_
  rw [h2, List.take_length, srtR_mem, mem_mk]
/-- slices.Clone -/
theorem clone_any (p : Option Addr) (c : Nat) (l : Row) (w : World) (h : Rd w p c l) (hl : l.length ≤ 1100000) :
    Calls Try.prog 28 #[.slice p l.length c] w fun e w' => ∃ v, e = .returned v ∧ Hid (Own w.heap.size w' v l ∧ Below w.heap.size w w') := by
  cases p with
  | none =>
    have hn : l = [] := Classical.byContradiction fun hne => by
      obtain ⟨b, o, e, _⟩ := h.strs hne
      cases e
    subst hn
    refine (Try.slices_Clone_string_nil _ c w).mono ?_
    rintro e w' ⟨rfl, rfl⟩
    exact ⟨_, rfl, World.ownsRow_nil _ _ _ _, Below.refl _ _⟩
  | some A =>
    by_cases hne : l = []
    · subst hne
      refine (Try.slices_Clone_string_zero A c w).mono ?_
      rintro e w' ⟨v, rfl, ho, _, hb⟩
      exact ⟨v, rfl, ho, hb⟩
    · obtain ⟨b, o, e, hc⟩ := h.strs hne
      injection e with e
      subst e
      refine (Try.slices_Clone_string b o l.length c (l.map fun t => (⟨t.toArray⟩ : ByteArray)) w (by simp) (by omega) (fun j hj => by
        have hj' : j < l.length := by simpa using hj
        rw [hc j hj']
        simp [List.getD, hj'])).mono ?_
      rintro e w' ⟨v, rfl, ho, _, hb⟩
      refine ⟨v, rfl, ?_, hb⟩
      show w'.ownsRow w.heap.size 9 1 v l.length (l.map txt)
      have e2 : List.map Value.string (List.take l.length (List.map (fun t : List UInt8 => (⟨t.toArray⟩ : ByteArray)) l)) = l.map txt := by
        rw [List.take_of_length_le (by simp), List.map_map]
        rfl
      rw [← e2]
      exact ho
/-- slices.Sort -/
theorem sort_any {B : Nat} {w : World} {v : Value} {l : Row} (h : Own B w v l) (hB : B ≤ w.heap.size) (hl : l.length ≤ 1100000) :
    Calls Try.prog 29 #[v] w fun e w' => e = .returned (.tuple #[]) ∧ Hid (Own B w' v (srtR l) ∧ Below B w w') := by
  rcases h.2 with ⟨rfl, h0⟩ | ⟨g, cap, cur, rfl, hbase, hb, h1, h2, h3, h4⟩
  · obtain rfl := List.length_eq_zero_iff.1 h0
    refine (Try.slices_Sort_string_none none 0 w).mono ?_
    rintro e w' ⟨rfl, rfl⟩
    exact ⟨rfl, by rw [show srtR [] = [] by simp [srtR]]; exact h, Below.refl _ _⟩
  · refine (Try.slices_Sort_string g 0 cap l w (holds_of_block hb (by simpa using h4)) (Array.getElem?_eq_some_iff.1 hb).1 (by omega)).mono ?_
    rintro e w' ⟨rfl, n, os, rfl⟩
    refine ⟨rfl, ?_, (Below.refl B w).grown (grownBy_sorted _) hB (fun k hk => by injection hk with hk; rw [← hk]; exact hbase)⟩
    have := ownsRow_sorted (n := n) (os := os) (ts := srtR l) (srtR_len l) hbase hb h1 h2 h3
    show World.ownsRow _ B 9 1 _ (srtR l).length _
    rw [srtR_len]
    exact this
/-- slices.Compact -/
theorem compact_any {B : Nat} {w : World} {v : Value} {l : Row} (h : Own B w v l) (hl : l.length ≤ 1100000) :
    Calls Try.prog 30 #[v] w fun e w' => ∃ q d, e = .returned (.slice q (Lib.compact l).length d) ∧ Hid (Own B w' (.slice q (Lib.compact l).length d) (Lib.compact l) ∧ Below B w w') := by
  rcases h.2 with ⟨rfl, h0⟩ | ⟨g, cap, cur, rfl, hbase, hb, h1, h2, h3, h4⟩
  · obtain rfl := List.length_eq_zero_iff.1 h0
    refine (Try.slices_Compact_string_empty none 0 w).mono ?_
    rintro e w' ⟨rfl, rfl⟩
    exact ⟨none, 0, rfl, h, Below.refl _ _⟩
  · refine (Try.slices_Compact_string g 0 cap l w (holds_of_block hb (by simpa using h4)) (by omega) h1).mono ?_
    rintro e w' ⟨rfl, q, rfl⟩
    have hle := Lib.compact_length_le l
    have hc := Lib.ownsRow_putRow (q := q) (k := (Lib.compact l).length) (ys := Lib.compact l ++ List.replicate (l.length - (Lib.compact l).length) []) (enc := txt) h (by simp; omega) hle
    rw [List.take_left] at hc
    exact ⟨_, cap, rfl, hc, Lib.below_putRow (Below.refl B w) hbase⟩
set_option maxHeartbeats 1000000 in
set_option maxRecDepth 100000 in
/-- Make -/
theorem make_any (p : Option Addr) (c : Nat) (l : Row) (w : World) (h : Rd w p c l) (hl : l.length ≤ 1100000) : Tells 11 #[.slice p l.length c] w (mk l) := by
  have HC := hid (clone_any p c l w h hl)
  have HL := hid hl
  have HL2 := hid (show (srtR l).length ≤ 1100000 by rw [srtR_len]; exact hl)
  have HE := hid (compact_mk l)
  generalize mk l = M at *
  obtain ⟨n, hn⟩ : ∃ n, l.length = n := ⟨_, rfl⟩
  rw [hn] at HC ⊢
  clear h hl hn
  go_enter Try.func11, Try.ntmps11
  go_wp2_with fail
  refine HC.out.mono ?_; rintro e w1 ⟨v, rfl, h1⟩
  clear HC
  obtain ⟨q, d, rfl, hd⟩ := h1.out.1.shape
  clear hd
  have HS := hid (sort_any h1.out.1 h1.out.2.size HL.out)
  generalize l.length = m at *
  go_wp2_with fail
  refine HS.out.mono ?_; rintro e w2 ⟨rfl, h2⟩
  clear HS
  have HK := hid (compact_any h2.out.1 HL2.out)
  rw [HE.out] at HK
  have HB := hid (h1.out.2.trans h2.out.2)
  clear h1 h2
  go_wp2_with fail
  refine HK.out.mono ?_; rintro e w3 ⟨q3, d3, rfl, h3⟩
  go_wp2_with fail
  go_ret
  exact ⟨q3, d3, rfl, h3.out.1.rd, HB.out.trans h3.out.2⟩
/-- where a text is, or would be -/
theorem search_at (l : Row) (s : Nm) (h : Ris l) : ∃ k, k ≤ l.length ∧ (∀ t, t < k → Op.bytesLess (l.getD t s) s = true) ∧ (∀ t, k ≤ t → Op.bytesLess (l.getD t s) s = false) ∧ ((k < l.length ∧ l.getD k s = s) ↔ s ∈ l) := by
  have hk := List.findIdx_le_length (p := fun x => decide (¬ x < s)) (xs := l)
  obtain ⟨k, e⟩ : ∃ k, l.findIdx (fun x => decide (¬ x < s)) = k := ⟨_, rfl⟩
  rw [e] at hk
  have h1 : ∀ t (ht : t < l.length), t < k → l[t] < s := fun t ht hlt => by
    have := List.not_of_lt_findIdx (p := fun x => decide (¬ x < s)) (xs := l) (i := t) (by omega)
    simpa using this
  have h2 : ∀ (hlt : k < l.length), ¬ l[k] < s := fun hlt => by
    subst e
    have := List.findIdx_getElem (p := fun x => decide (¬ x < s)) (xs := l) (w := hlt)
    simpa using this
  have h3 : ∀ t (ht : t < l.length), k ≤ t → ¬ l[t] < s := fun t ht hkt hlt => by
    by_cases e : k = t
    · subst e; exact h2 ht hlt
    · exact h2 (by omega) (nm_lt_trans ((List.pairwise_iff_getElem.1 h) k t (by omega) ht (by omega)) hlt)
  refine ⟨k, hk, fun t ht => ?_, fun t ht => ?_, ?_⟩
  · rw [bytesLess_eq]
    have htl : t < l.length := by omega
    rw [show l.getD t s = l[t] by simp [List.getD, htl]]
    exact decide_eq_true (h1 t htl ht)
  · rw [bytesLess_eq]
    by_cases htl : t < l.length
    · rw [show l.getD t s = l[t] by simp [List.getD, htl]]
      exact decide_eq_false (h3 t htl ht)
    · rw [show l.getD t s = s by simp [List.getD, List.getElem?_eq_none (Nat.le_of_not_lt htl)]]
      exact decide_eq_false (nm_lt_irrefl s)
  · constructor
    · rintro ⟨hlt, he⟩
      rw [show l.getD k s = l[k] by simp [List.getD, hlt]] at he
      rw [← he]
      exact List.getElem_mem hlt
    · intro hs
      obtain ⟨i, hi, he⟩ := List.mem_iff_getElem.1 hs
      have hki : k ≤ i := Nat.le_of_not_lt fun hlt => nm_lt_irrefl s (by have := h1 i hi hlt; rwa [he] at this)
      have hik : i = k := by
        by_cases e : k = i
        · exact e.symm
        · have hlt : k < l.length := by omega
          have h4 := (List.pairwise_iff_getElem.1 h) k i hlt hi (by omega)
          rw [he] at h4
          exact absurd h4 (h2 hlt)
      subst hik
      refine ⟨hi, ?_⟩
      rw [show l.getD i s = l[i] by simp [List.getD, hi]]
      exact he
/-- slices.BinarySearch -/
theorem search_any (p : Option Addr) (c : Nat) (l : Row) (s : Nm) (w : World) (h : Rd w p c l) (hl : l.length ≤ 1100000) :
    Calls Try.prog 31 #[.slice p l.length c, txt s] w fun e w' => ∃ (i : Int) (V : Bool), e = .returned (.tuple #[.int .i64 i, .bool V]) ∧ Hid ((Ris l → V = decide (s ∈ l)) ∧ Below w.heap.size w w') := by
  by_cases hne : l = []
  · subst hne
    refine (Try.slices_BinarySearch_string_empty p c _ w).mono ?_
    rintro e w' ⟨rfl, rfl⟩
    exact ⟨0, false, rfl, fun _ => by simp, Below.refl _ _⟩
  · obtain ⟨b, o, rfl, hc⟩ := h.strs hne
    refine (Try.slices_BinarySearch_string b o l.length c (fun j => ⟨(l.getD j s).toArray⟩) ⟨s.toArray⟩ w (by omega) (fun j hj => by
      rw [hc j hj]
      simp [List.getD, hj])).mono ?_
    rintro e w' ⟨rfl, q, rfl⟩
    refine ⟨_, _, rfl, fun hr => ?_, below_drewN w q⟩
    obtain ⟨k, hk, k1, k2, k3⟩ := search_at l s hr
    have e : Lib.bsGo (fun t => Op.bytesLess ((⟨(l.getD t s).toArray⟩ : ByteArray)).toList ((⟨s.toArray⟩ : ByteArray)).toList) l.length 0 l.length = k :=
      Lib.bsGo_spec _ k (fun t ht => by simpa using k1 t ht) (fun t ht => by simpa using k2 t ht) l.length 0 l.length (by omega) (Nat.zero_le _) hk
    rw [e, decide_eq_decide, ← k3]
    constructor
    · rintro ⟨h1, h2⟩
      refine ⟨h1, ?_⟩
      have h3 := congrArg (fun x : ByteArray => x.data.toList) h2
      simpa using h3
    · rintro ⟨h1, h2⟩
      exact ⟨h1, by rw [h2]⟩
set_option maxHeartbeats 1000000 in
/-- Has -/
theorem has_run (p : Option Addr) (c : Nat) (l : Row) (s : Nm) (w : World) (h : Rd w p c l) (hl : l.length ≤ 1100000) :
    Calls Try.prog 16 #[.slice p l.length c, txt s] w fun e w' => ∃ V : Bool, e = .returned (.bool V) ∧ Hid ((Ris l → V = decide (s ∈ l)) ∧ Below w.heap.size w w') := by
  have HS := hid (search_any p c l s w h hl)
  clear h hl
  generalize l.length = n at *
  go_enter Try.func16, Try.ntmps16
  go_wp2_with fail
  refine HS.out.mono ?_; rintro e w1 ⟨i, V, rfl, hh⟩
  go_wp2_with fail
  go_ret
  exact ⟨V, rfl, hh.out⟩
theorem has_any (p : Option Addr) (c : Nat) (l : Row) (s : Nm) (w : World) (h : Rd w p c l) (hl : l.length ≤ 1100000) (hr : Ris l) : Calls Try.prog 16 #[.slice p l.length c, txt s] w fun e w' => e = .returned (.bool (decide (s ∈ l))) ∧ Hid (Below w.heap.size w w') :=
  (has_run p c l s w h hl).mono (by rintro e w' ⟨V, rfl, hh⟩; rw [hh.out.1 hr]; exact ⟨rfl, hh.out.2⟩)

end Go.Proofs.Ytpbokncojemihaa
