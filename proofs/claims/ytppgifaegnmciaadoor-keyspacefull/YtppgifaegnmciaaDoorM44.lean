/- FullP. -/
import Derived.Test.YtppgifaegnmciaaDoorM41
namespace Go.Proofs.YtppgifaegnmciaaDoor
open Go.RowKit

def fkey (i : Nat) : Nm := [UInt8.ofNat i, UInt8.ofNat (i / 256)]
abbrev fV (t : Nm) : Vl := ⟨1, t, [], [], 0, 0⟩
abbrev fE (i : Nat) : EP := (fkey i, fV [], 0)
theorem fkey_inj {i j : Nat} (hi : i < 65536) (hj : j < 65536) (h : fkey i = fkey j) : i = j := by
  unfold fkey at h
  simp only [List.cons.injEq, and_true] at h
  have h1 := congrArg UInt8.toNat h.1
  have h2 := congrArg UInt8.toNat h.2
  rw [UInt8.toNat_ofNat', UInt8.toNat_ofNat'] at h1 h2
  omega
theorem fV_right {t : Nm} (h : t.length ≤ 4096) : rightB (fV t) = true := rightB_iff.2 (rtv1 h)
theorem fV_dump {t : Nm} (h : t.length ≤ 4096) : (dumpS (fV t)).length = t.length + 5 := by
  unfold dumpS
  rw [if_pos (fV_right h), dump_len]
  show (UInt8.ofNat _ :: tx t).length + 2 = _
  simp [tx, two]
theorem fE_takes (i : Nat) : tkE (fE i) = 23 := by
  unfold tkE
  show 16 + 2 + (dumpS (fV [])).length = 23
  rw [fV_dump (by decide)]
  rfl
structure FullIs (i : Nat) (L : List EP) : Prop where
  srt : SrtL L
  len : L.length = min i 4096
  mem : ∀ x, x ∈ L ↔ ∃ j, j < min i 4096 ∧ x = fE j
  bytes : memL L = 23 * L.length
theorem full_nil : FullIs 0 [] := by
  refine ⟨List.Pairwise.nil, rfl, fun x => ⟨fun h => ?_, fun ⟨j, h, _⟩ => ?_⟩, rfl⟩
  · cases h
  · omega
theorem FullIs.none {i : Nat} {L : List EP} (h : FullIs i L) (hi : i < 65536) : getL (fkey i) L = none := getL_none.2 fun x hx e => by
  obtain ⟨j, hj, rfl⟩ := (h.mem x).1 hx
  have := fkey_inj (by omega) hi e
  omega
theorem FullIs.put {i : Nat} {L : List EP} (h : FullIs i L) (hi : i < 65536) : putEL L 1073741824 0 (fE i) = if i < 4096 then 0 else 110 := by
  have h1 : ¬ argBadP (fE i) 0 := by
    show ¬ (1024 < 2 ∨ (0 : Int) < 0 ∨ (1099511627776 : Int) < 0 ∨ ((0 : Int) < 0 ∧ (0 : Int) ≤ 0))
    omega
  have h2 : ¬ rightB (fE i).2.1 = false := by rw [show (fE i).2.1 = fV [] from rfl, fV_right (by decide)]; decide
  have hn := h.none hi
  have hl := h.len
  have hb := h.bytes
  unfold putEL
  rw [if_neg h1, if_neg h2, fE_takes, show (fE i).1 = fkey i from rfl, delL_none hn, hn]
  by_cases hlt : i < 4096
  · rw [if_pos hlt, if_neg]
    rintro (⟨_, h⟩ | ⟨h, _⟩)
    · omega
    · omega
  · rw [if_neg hlt, if_pos]
    exact .inl ⟨rfl, by omega⟩
theorem FullIs.next {i : Nat} {L : List EP} (h : FullIs i L) (hi : i < 65536) : FullIs (i + 1) (putLL L 1073741824 0 (fE i)) := by
  have hl := h.len
  unfold putLL
  rw [h.put hi]
  by_cases hlt : i < 4096
  · have hn := h.none hi
    rw [if_pos hlt, if_pos rfl, insL_eq, show (fE i).1 = fkey i from rfl, delL_none hn]
    refine ⟨insR_srt h.srt (getL_none.1 hn), by rw [insR_len]; omega, fun x => ?_, by rw [memL_ins, insR_len, fE_takes, h.bytes]; omega⟩
    rw [insR_mem, h.mem]
    constructor
    · rintro (rfl | ⟨j, hj, rfl⟩)
      · exact ⟨i, by omega, rfl⟩
      · exact ⟨j, by omega, rfl⟩
    · rintro ⟨j, hj, rfl⟩
      by_cases e : j = i
      · exact .inl (by rw [e])
      · exact .inr ⟨j, by omega, rfl⟩
  · rw [if_neg hlt, if_neg (by decide)]
    refine ⟨h.srt, by omega, fun x => ?_, h.bytes⟩
    rw [h.mem]
    constructor
    · rintro ⟨j, hj, rfl⟩; exact ⟨j, by omega, rfl⟩
    · rintro ⟨j, hj, rfl⟩; exact ⟨j, by omega, rfl⟩
/-- one of the keys again, with a letter -/
theorem FullIs.again {i : Nat} {L : List EP} (h : FullIs i L) (hi : 4096 ≤ i) : putEL L 1073741824 0 (fkey 0, fV [120], 0) = 0 := by
  have h1 : ¬ argBadP (fkey 0, fV [120], 0) 0 := by
    show ¬ (1024 < 2 ∨ (0 : Int) < 0 ∨ (1099511627776 : Int) < 0 ∨ ((0 : Int) < 0 ∧ (0 : Int) ≤ 0))
    omega
  have h2 : ¬ rightB (fV [120]) = false := by rw [fV_right (by decide)]; decide
  have hg : getL (fkey 0) L = some (fE 0) := getL_of h.srt ((h.mem _).2 ⟨0, by omega, rfl⟩) rfl
  have hl := h.len
  have hb := h.bytes
  have hm := memL_del h.srt hg
  rw [fE_takes] at hm
  have ht : tkE (fkey 0, fV [120], 0) = 24 := by
    unfold tkE
    show 16 + 2 + (dumpS (fV [120])).length = 24
    rw [fV_dump (by decide)]
    rfl
  unfold putEL
  rw [if_neg h1, if_neg h2, ht]
  dsimp only
  rw [hg, if_neg]
  rintro (⟨h, _⟩ | ⟨h, _⟩)
  · cases h
  · omega

end Go.Proofs.YtppgifaegnmciaaDoor
