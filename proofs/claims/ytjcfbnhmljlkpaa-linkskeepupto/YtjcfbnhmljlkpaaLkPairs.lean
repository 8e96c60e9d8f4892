/- Pairs. -/
import Derived.Test.YtjcfbnhmljlkpaaLkSort
import Derived.Test.YtjcfbnhmljlkpaaLkCl
import Derived.Shelf.SlSortCmp.NoneTotal
namespace Go.Proofs.Ytjcfbnhmljlkpaa
open Go.RowKit Go.Maps

abbrev cmpF : Value := .func (.func 30) #[] #[]
def SortedP (D : DataW Value) (w : World) (e : Ending) (w' : World) : Prop :=
  ∃ q d ss, e = .returned (.slice q (ss : List (Int × Int)).length d) ∧ Hid ((∀ x, x ∈ ss ↔ IE x.1 x.2 ∧ Maps.has D (kl x.1 x.2) = true) ∧ RisV ss ∧ RdP (fun k => w.heap.size ≤ k) w' q ss ∧ Below w.heap.size w w')
theorem gsort_none (q : Option Addr) (d : Nat) (w : World) : Calls Try.prog 36 #[.slice q 0 d, cmpF] w fun e w' => e = .returned (.tuple #[]) ∧ w' = w := by
  have h := AnyF.slices_SortFunc_none Try.sortK q d cmpF w
  change Calls Try.prog 36 _ _ _ at h
  exact h
theorem map_len {w : World} {m : Nat} {D : DataW Value} (hom : OM w m (size D) D) {ss : List (Int × Int)} (h : AllK D ss) : ss.length = size D := by
  obtain ⟨ks, h1, h2, h3⟩ := OM.ends hom
  have a := nodup_len h.1 (fun x hx => (h3 x).2 ((h.2 x).1 hx))
  have b := nodup_len h2 (fun x hx => (h.2 x).2 ((h3 x).1 hx))
  omega
set_option maxRecDepth 100000 in
set_option maxHeartbeats 1000000 in
theorem gsorted_any (bm m : Nat) (D : DataW Value) (w : World) (hm : w.heap[bm]? = some (.cells #[.map (some m)] 51 (0, 0))) (hom : OM w m (size D) D) (hN : size D ≤ 100000) :
    Calls Try.prog 28 #[keysF bm, cmpF] w (SortedP D w) := by
  have H := hid (gcollect_any bm m D w hm hom hN)
  have HLen := hid (fun ss : List (Int × Int) => map_len (ss := ss) hom)
  have HN := hid hN
  clear hm hom hN
  go_enter Try.func28, Try.ntmps28
  go_wp2_with fail
  refine H.out.mono ?_; rintro e w1 ⟨q, d, ss, rfl, hh⟩
  obtain ⟨hA, hO, hB⟩ := hh.out
  by_cases h0 : ss = []
  · subst h0
    have HS := hid (gsort_none q d w1)
    have HA := hid hA
    have HB := hid hB
    clear hA hO hB hh H HLen
    simp only [List.length_nil]
    go_wp2_with fail
    refine HS.out.mono ?_; rintro e w2 ⟨rfl, rfl⟩
    go_wp2_with fail
    go_ret
    exact ⟨q, d, [], rfl, fun x => HA.out.2 x, trivial, fun h => absurd rfl h, HB.out⟩
  · have hln : ss.length ≤ 100000 := by have := HLen.out ss hA; have := HN.out; omega
    have hrd := OwnP.rd hO
    obtain ⟨g, cap, cur, e1, hg, hblk⟩ : ∃ g cap cur, q = some ⟨g, 0, none⟩ ∧ w.heap.size ≤ g ∧ w1.heap[g]? = some (.cells cur 41 (0, 0)) := by
      rcases hO.2 with ⟨-, hz⟩ | ⟨g, cap, cur, e1, h2, h3, -⟩
      · exact absurd (List.length_eq_zero_iff.1 hz) h0
      · injection e1 with e1 e2 e3
        exact ⟨g, cap, cur, e1, h2, h3⟩
    subst e1
    have hc : ∀ i (h : i < ss.length), w1.cell? ⟨g, i * 2, none⟩ = some (.int .i64 ss[i].1) ∧ w1.cell? ⟨g, i * 2 + 1, none⟩ = some (.int .i64 ss[i].2) := by
      obtain ⟨b, o, e, -, -, hc⟩ := hrd h0
      injection e with e
      injection e with e1 e2
      subst e1 e2
      simpa using hc
    have HS := hid (gsort_any g d ss w1 cur hblk hc hln)
    have HA := hid hA
    have HB := hid hB
    have HG := hid hg
    clear hA hO hB hh H HLen hrd hblk hc hg
    obtain ⟨n, hn⟩ : ∃ n, ss.length = n := ⟨_, rfl⟩
    have Hn := hid hn
    rw [hn] at HS ⊢
    clear hn hln
    go_wp2_with fail
    refine HS.out.mono ?_; rintro e w2 ⟨rfl, hs⟩
    have HZ := hid hs.out
    clear hs HS
    go_wp2_with fail
    go_ret
    obtain ⟨d', z1, z2, z3, z4, z5, z6⟩ := HZ.out
    refine ⟨some ⟨g, 0, none⟩, d, d'.toList, ?_, fun x => (z2 x).trans (HA.out.2 x), z3 HA.out.1, fun _ => ⟨g, 0, rfl, HG.out, ?_, fun i hi => ?_⟩, HB.out.trans (z6 _ HG.out HB.out.size)⟩
    · rw [show d'.toList.length = n by rw [Array.length_toList, z1, Hn.out]]
      rfl
    · have hz : 0 < d'.size := by
        rw [z1]
        exact List.length_pos_iff.2 h0
      have h1 := (z4 0 hz).1
      exact Nat.lt_of_not_le (fun hc => by
        have h2 : w2.heap[g]? = none := Array.getElem?_eq_none hc
        rw [World.cell?] at h1
        simp [h2] at h1)
    · obtain ⟨c0, c1⟩ := z4 i (by simpa using hi)
      rw [Nat.zero_add]
      simp only [Array.getElem_toList]
      exact ⟨c0, c1⟩
set_option maxRecDepth 100000 in
set_option maxHeartbeats 1000000 in
theorem kpairs_any {w : World} {b : Nat} {F R : Nat → Prop} {ws : List Wy} (h : LB w b F R ws) (hl : ws.length ≤ 100000) :
    Calls Try.prog 17 #[ptr b] w fun e w' => ∃ q d, e = .returned (.slice q (pairsV ws).length d) ∧ Hid (RdP (fun k => w.heap.size ≤ k) w' q (pairsV ws) ∧ Below w.heap.size w w') := by
  obtain ⟨m, D, pl, hs⟩ := h
  have hb1 := below_alloc w (.cells #[.map (some m)] 51)
  have hom1 : OM (w.alloc (.cells #[.map (some m)] 51)) m (size D) D := World.ownsMap.alloc (w := w) hs.om _
  have HS := hid (gsorted_any w.heap.size m D _ (heap_alloc_new w _) hom1 (Nat.le_trans hs.size_le hl))
  have c0 : w.cell? ⟨b, 0, none⟩ = some (.map (some m)) := cell_of_row w b 0 _ _ _ hs.blk
  have HK := hid (gkeys_any (some m) w)
  have HB := hid hb1
  have HP : Hid (∀ ss : List (Int × Int), (∀ x, x ∈ ss ↔ IE x.1 x.2 ∧ Maps.has D (kl x.1 x.2) = true) → RisV ss → ss = pairsV ws) := fun ss h1 h2 => by
    refine ris_ext h2 (pairsV_ris ws) (fun q => ?_)
    rw [h1, pairsV_mem, ne_eq, ← hs.empty_iff]
    constructor
    · rintro ⟨hi, hh⟩ e
      rw [hs.has _ _ hi, e] at hh
      cases hh
    · intro hne
      have hi := hs.ie _ _ hne
      refine ⟨hi, ?_⟩
      rw [hs.has _ _ hi]
      cases hp : pl q.1 q.2 with
      | nil => exact absurd hp hne
      | cons x l => rfl
  clear hs hl hb1 hom1
  go_enter Try.func17, Try.ntmps17
  go_wp2_with fail
  refine HK.out.mono ?_; rintro e w1 ⟨rfl, rfl⟩
  go_wp2_with fail
  refine HS.out.mono ?_; rintro e w2 ⟨q, d, ss, rfl, hh⟩
  have HH := hid hh.out
  clear hh
  go_wp2_with fail
  go_ret
  obtain ⟨z1, z2, z3, z4⟩ := HH.out
  obtain rfl := HP.out ss z1 z2
  refine ⟨q, d, rfl, z3.turn (Nat.le_refl _) (fun k hk _ => ⟨Nat.le_trans HB.out.size hk, rfl⟩), HB.out.trans (z4.mono HB.out.size)⟩

end Go.Proofs.Ytjcfbnhmljlkpaa
