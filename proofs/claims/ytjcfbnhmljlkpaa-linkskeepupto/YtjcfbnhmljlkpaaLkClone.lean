/- slices.Clone of texts, and of replies. -/
import Derived.Test.YtjcfbnhmljlkpaaLkKeepM
import Derived.Lib.SliceRun
namespace Go.Proofs.Ytjcfbnhmljlkpaa
open Go.RowKit

theorem nilS (w : World) (a : Option Addr) (n c n' c' : Nat) : (binOp .eql 28 (.slice a n c) (.slice none n' c')).run Try.prog w = .ok (.bool a.isNone) w := Lib.run_eql_slice_nil w _ _ a n c n' c' Try.underlying28
theorem nilR (w : World) (a : Option Addr) (n c n' c' : Nat) : (binOp .eql 29 (.slice a n c) (.slice none n' c')).run Try.prog w = .ok (.bool a.isNone) w := Lib.run_eql_slice_nil w _ _ a n c n' c' Try.underlying29
set_option maxHeartbeats 4000000 in
set_option maxRecDepth 100000 in
theorem cloneS_any (p : Option Addr) (l : List (List UInt8)) (c : Nat) (w : World) (h : TxR All w p l) (hl : l.length ≤ 1000000) :
    Calls Try.prog 33 #[.slice p l.length c] w fun e w' => ∃ q d, e = .returned (.slice q l.length d) ∧ Hid (TxR (fun k => w.heap.size ≤ k) w' q l ∧ (q = none → d = 0) ∧ Below w.heap.size w w') := by
  have q28 := nilS
  cases p with
  | none =>
    have hl0 : l = [] := by
      cases l with
      | nil => rfl
      | cons s r => obtain ⟨b, o, e, _⟩ := h (by simp); cases e
    subst hl0
    clear h hl
    go_enter Try.func33, Try.ntmps33
    go_wp2_with fail
    go_ret
    exact ⟨none, 0, rfl, fun hne => absurd rfl hne, fun _ => rfl, Below.refl _ _⟩
  | some ad =>
    have hb := below_alloc w (.cells #[] 9)
    have ho := World.ownsRow_made (base := w.heap.size) (e := 9) (size := 1) w #[] 0 (Nat.le_refl _) (Nat.zero_le _) (by simp)
    obtain ⟨v, w1, hrun, hown, hb1⟩ := copyS (B := w.heap.size) (c := c) (h.turn (Q := All) (fun k _ hk => ⟨trivial, hb.block k hk⟩)) (fun e => by cases e) hl (by simp) ho
    obtain ⟨g, q, d, rfl, hg⟩ := own_info hown
    have HR := hid hrun
    have hq : q = none → d = 0 := fun e => by
      rcases hown.2 with ⟨h1, _⟩ | ⟨g', cap, cur, h1, _⟩
      · injection h1
      · injection h1 with e1
        rw [e] at e1
        cases e1
    have HEnd : Hid (TxR (fun k => w.heap.size ≤ k) w1 q l ∧ (q = none → d = 0) ∧ Below w.heap.size w w1) := ⟨own_tx hown, hq, hb.trans hb1⟩
    clear h hown hg hb hb1 ho hrun hq
    obtain ⟨n, hn⟩ : ∃ n, l.length = n := ⟨_, rfl⟩
    rw [hn] at HR ⊢
    clear hl hn
    go_enter Try.func33, Try.ntmps33
    go_wp2_with (first
      | (refine wpList_bsliceS0 rfl rfl (Hid.out ?_); refine hid ?_)
      | (at_builtin; refine wpList_append_runs (by kernel_rfl) _ _ _ _ rfl _ _ _ _ rfl rfl HR.out (Hid.out ?_); refine hid ?_))
    go_ret
    exact ⟨q, d, rfl, HEnd.out⟩
set_option maxRecDepth 100000 in
/-- a row of replies is copied, cell by cell -/
theorem copyQ {B : Nat} {W : World} {P : Nat → Prop} {d : Nat} {ad : Addr} {c : Nat} {l : List Rep} (h : RowOf P W (Rp P W d) (some ad) l) (hl : l.length ≤ 1000000) (hB : B ≤ W.heap.size) {v : Value} (ho : W.ownsRow B 31 4 v 0 []) :
    ∃ v' W' f, (Builtin.append_ #[29, 29] 29 #[v, .slice (some ad) l.length c]).run Try.prog W = .ok v' W' ∧ W'.ownsRow B 31 4 v' l.length (flatQ l f 0) ∧ Below B W W' ∧ ∀ i (hi : i < l.length), Rp P W d (.agg #[.int .i64 l[i].kind, .int .i64 l[i].int, .string ⟨l[i].text.toArray⟩, .slice (f i).1 l[i].list.length (f i).2]) l[i] := by
  obtain ⟨i0, hi, hz0, hz1, hz2⟩ := info_parts infoR4
  obtain ⟨f, hf, hR⟩ := row_pick h
  have hnews : ∀ j u, (flatQ l f 0)[j]? = some u → W.cell? (ad.add j) = some u := fun j u hj => by
    have hne : l ≠ [] := fun e => by rw [e] at hj; simp [flatQ] at hj
    obtain ⟨b, o, e1, _, _⟩ := h hne
    have := hf b o e1 j u hj
    injection e1 with e1
    subst e1
    rw [Go.WideShapes.add_plain]
    exact this
  obtain ⟨v', w', hrun, ho', hgr, _⟩ := run_append_own (P := Try.prog) W B 29 29 31 i0 _ 4 56 Try.underlying29 hi hz0 hz1 hz2 rfl (by decide) _ _ _ ho ad l.length c (flatQ l f 0) (flatQ_len f l 0) hnews (flatQ_one f l 0) (by unfold maxLen; omega) (by omega) (by omega)
  exact ⟨v', w', f, hrun, by simpa using ho', (Below.refl B _).grown hgr hB (fun k hk => (World.ownsRow.lt ho k hk).1), hR⟩
def CloneRP (w : World) (l : List Rep) (dd : Nat) (e : Ending) (w' : World) : Prop :=
  ∃ q d f, e = .returned (.slice q l.length d) ∧ Hid (w'.ownsRow w.heap.size 31 4 (.slice q l.length d) l.length (flatQ l f 0) ∧ (q = none → d = 0) ∧ Below w.heap.size w w' ∧
      ∀ i (hi : i < l.length), Rp All w dd (.agg #[.int .i64 l[i].kind, .int .i64 l[i].int, .string ⟨l[i].text.toArray⟩, .slice (f i).1 l[i].list.length (f i).2]) l[i])
set_option maxHeartbeats 4000000 in
set_option maxRecDepth 100000 in
theorem cloneR_any (p : Option Addr) (l : List Rep) (c dd : Nat) (w : World) (h : RowOf All w (Rp All w dd) p l) (hl : l.length ≤ 1000000) :
    Calls Try.prog 39 #[.slice p l.length c] w (CloneRP w l dd) := by
  have q29 := nilR
  cases p with
  | none =>
    have hl0 : l = [] := by
      cases l with
      | nil => rfl
      | cons s r => obtain ⟨b, o, e, _⟩ := h (by simp); cases e
    subst hl0
    clear h hl
    go_enter Try.func39, Try.ntmps39
    go_wp2_with fail
    go_ret
    exact ⟨none, 0, fun _ => (none, 0), rfl, ⟨rfl, .inl ⟨rfl, rfl⟩⟩, fun _ => rfl, Below.refl _ _, fun i hi => absurd hi (Nat.not_lt_zero i)⟩
  | some ad =>
    have hb := below_alloc w (.cells #[] 31)
    have ho := World.ownsRow_made (base := w.heap.size) (e := 31) (size := 4) w #[] 0 (Nat.le_refl _) (Nat.zero_le _) (by simp)
    obtain ⟨v, w1, f, hrun, hown, hb1, hR⟩ := copyQ (B := w.heap.size) (c := c) (h.turn (P := All) (Q := fun k => k < w.heap.size) (fun k _ hk => ⟨hk, hb.block k hk⟩) (Nat.le_refl _)) hl (by simp) ho
    obtain ⟨g, q, d, rfl, hg⟩ := own_info hown
    have hq : q = none → d = 0 := fun e => by
      rcases hown.2 with ⟨h1, _⟩ | ⟨g', cap, cur, h1, _⟩
      · injection h1
      · injection h1 with e1
        rw [e] at e1
        cases e1
    have HR := hid hrun
    have HEnd : Hid (w1.ownsRow w.heap.size 31 4 (.slice q l.length d) l.length (flatQ l f 0) ∧ (q = none → d = 0) ∧ Below w.heap.size w w1 ∧
      ∀ i (hi : i < l.length), Rp All w dd (.agg #[.int .i64 l[i].kind, .int .i64 l[i].int, .string ⟨l[i].text.toArray⟩, .slice (f i).1 l[i].list.length (f i).2]) l[i]) :=
      ⟨hown, hq, hb.trans hb1, fun i hi => (hR i hi).turn (fun k hk hlt => ⟨trivial, (hb.block k hk).symm⟩) (Nat.le_refl _)⟩
    clear h hown hg hb hb1 ho hrun hq hR
    obtain ⟨n, hn⟩ : ∃ n, l.length = n := ⟨_, rfl⟩
    rw [hn] at HR ⊢
    have HN := hid hn
    clear hl hn
    go_enter Try.func39, Try.ntmps39
    go_wp2_with (first
      | (refine wpList_bsliceR0 rfl rfl (Hid.out ?_); refine hid ?_)
      | (at_builtin; refine wpList_append_runs (by kernel_rfl) _ _ _ _ rfl _ _ _ _ rfl rfl HR.out (Hid.out ?_); refine hid ?_))
    go_ret
    exact ⟨q, d, f, (by rw [HN.out]; rfl), HEnd.out⟩

end Go.Proofs.Ytjcfbnhmljlkpaa
