/- The law ValueSame. -/
import Derived.Test.YtmjmdfenkhmfbaaDoorCopyMem
namespace Go.Proofs.YtmjmdfenkhmfbaaDoor
open Go.RowKit

structure MethC (V : World → Prop) : Prop where
  copy : ∀ (m : Vl) (pp : Option Addr) (pc' : Nat) (ip : Option Addr) (ic : Nat) (w : World), V w → Came m → (m.pairs.length * 32 ≤ 140737488351232 ∧ m.items.length * 16 ≤ 140737488351232) → VI w m pp pc' ip ic → Calls Tryd.prog 22 #[vv m pp pc' ip ic] w fun e w' => ∃ pp2 pc2 ip2 ic2, e = .returned (vv m pp2 pc2 ip2 ic2) ∧ Hid (VI w' m pp2 pc2 ip2 ic2 ∧ Wt w.heap.size w' pp2 ip2 m.pairs.length m.items.length ∧ Below w.heap.size w w')
/-- the copy, so far written into -/
def cp (m : Vl) (k i : Nat) : Vl := { m with pairs := bump fP m.pairs k, items := bump fI m.items i }
structure CS (w : World) (b : Nat) (m : Vl) (pp : Option Addr) (pc' : Nat) (ip : Option Addr) (ic : Nat) (pp2 : Option Addr) (pc2 : Nat) (ip2 : Option Addr) (ic2 : Nat) (W : World) (k i : Nat) : Prop where
  a : W.heap[w.heap.size]? = some (.cells (vcs m pp pc' ip ic) 27 (0, 0))
  c : W.heap[b]? = some (.cells (vcs m pp2 pc2 ip2 ic2) 27 (0, 0))
  vi : VI W (cp m k i) pp2 pc2 ip2 ic2
  wt : Wt (w.heap.size + 2) W pp2 ip2 m.pairs.length m.items.length
  bel : Below w.heap.size w W
theorem CS.item {w : World} {b : Nat} {m : Vl} {pp : Option Addr} {pc' : Nat} {ip : Option Addr} {ic : Nat} {pp2 : Option Addr} {pc2 : Nat} {ip2 : Option Addr} {ic2 : Nat} {W : World} {k i : Nat} (h : CS w b m pp pc' ip ic pp2 pc2 ip2 ic2 W k i) (hk : k ≤ m.pairs.length) (hi : i < m.items.length) :
    ∃ g o, ip2 = some ⟨g, o, none⟩ ∧ W.cell? ⟨g, o + i, none⟩ = some (txt m.items[i]) ∧ W.frozen? ⟨g, o + i, none⟩ = false ∧ CS w b m pp pc' ip ic pp2 pc2 ip2 ic2 (W.setCell ⟨g, o + i, none⟩ (txt (fI m.items[i]))) k (i + 1) := by
  have hl : (cp m k i).items.length = m.items.length := bump_len _ _ _ (by omega)
  have hlp : (cp m k i).pairs.length = m.pairs.length := bump_len _ _ _ hk
  obtain ⟨g, o, h1, h2, h3, h4, ⟨cs, h5⟩, h6, h7⟩ := put_item h.vi (by rw [hl, hlp]; exact h.wt) i (by rw [hl]; exact hi) (fI m.items[i])
  have hat : (cp m k i).items[i]'(by rw [hl]; exact hi) = m.items[i] := bump_at _ _ _ hi _
  rw [hat] at h3
  rw [hl, hlp] at h7
  have hb : b ≠ g := fun e => by
    subst e
    rw [h.c] at h5
    injection h5 with h5
    injection h5 with _ h5
    exact absurd h5 (by decide)
  refine ⟨g, o, h1, h3, h4, (heap_setCell_other _ _ _ _ (by simp only; omega)).trans h.a, (heap_setCell_other _ _ _ _ hb).trans h.c, ?_, h7, h.bel.setCell (p := ⟨g, o + i, none⟩) (by simp only; omega) _⟩
  have e : { cp m k i with items := (cp m k i).items.set i (fI m.items[i]) } = cp m k (i + 1) := by
    unfold cp
    dsimp only
    rw [bump_set _ _ _ hi]
  rw [e] at h6
  exact h6
theorem CS.name {w : World} {b : Nat} {m : Vl} {pp : Option Addr} {pc' : Nat} {ip : Option Addr} {ic : Nat} {pp2 : Option Addr} {pc2 : Nat} {ip2 : Option Addr} {ic2 : Nat} {W : World} {k i : Nat} (h : CS w b m pp pc' ip ic pp2 pc2 ip2 ic2 W k i) (hk : k < m.pairs.length) (hi : i ≤ m.items.length) :
    ∃ g o, pp2 = some ⟨g, o, none⟩ ∧ W.cell? ⟨g, o + k * 2, none⟩ = some (txt m.pairs[k].1) ∧ W.frozen? ⟨g, o + k * 2, none⟩ = false ∧ CS w b m pp pc' ip ic pp2 pc2 ip2 ic2 (W.setCell ⟨g, o + k * 2, none⟩ (txt (fI m.pairs[k].1))) (k + 1) i := by
  have hl : (cp m k i).items.length = m.items.length := bump_len _ _ _ hi
  have hlp : (cp m k i).pairs.length = m.pairs.length := bump_len _ _ _ (by omega)
  obtain ⟨g, o, h1, h2, h3, h4, ⟨cs, h5⟩, h6, h7⟩ := put_name h.vi (by rw [hl, hlp]; exact h.wt) k (by rw [hlp]; exact hk) (fI m.pairs[k].1)
  have hat : (cp m k i).pairs[k]'(by rw [hlp]; exact hk) = m.pairs[k] := bump_at _ _ _ hk _
  rw [hat] at h3 h6
  rw [hl, hlp] at h7
  have hb : b ≠ g := fun e => by
    subst e
    rw [h.c] at h5
    injection h5 with h5
    injection h5 with _ h5
    exact absurd h5 (by decide)
  refine ⟨g, o, h1, h3, h4, (heap_setCell_other _ _ _ _ (by simp only; omega)).trans h.a, (heap_setCell_other _ _ _ _ hb).trans h.c, ?_, h7, h.bel.setCell (p := ⟨g, o + k * 2, none⟩) (by simp only; omega) _⟩
  have e : { cp m k i with pairs := (cp m k i).pairs.set k (fI m.pairs[k].1, m.pairs[k].2) } = cp m (k + 1) i := by
    unfold cp
    dsimp only
    rw [show (fI m.pairs[k].1, m.pairs[k].2) = fP m.pairs[k] from rfl, bump_set _ _ _ hk]
  rw [e] at h6
  exact h6
theorem cp_ne {m : Vl} (h : 0 < m.items.length + m.pairs.length) : m ≠ cp m m.pairs.length m.items.length := fun e => by
  unfold cp at e
  rw [bump_all, bump_all] at e
  have hi := congrArg Vl.items e
  have hp := congrArg Vl.pairs e
  dsimp only at hi hp
  by_cases h0 : 0 < m.items.length
  · have := congrArg (fun l : List Nm => (l[0]?.getD []).length) hi
    simp [fI, h0] at this
  · have hp0 : 0 < m.pairs.length := by omega
    have := congrArg (fun l : List (Nm × Nm) => (l[0]?.getD ([], [])).1.length) hp
    simp [fP, hp0] at this

end Go.Proofs.YtmjmdfenkhmfbaaDoor
