/- SePick. -/
import Derived.Test.YtppgifaegnmciaaDoorM28
namespace Go.Proofs.YtppgifaegnmciaaDoor
open Go.RowKit

/-- texts that may be written, in a block that came -/
def Lw (n : Nat) (w : World) (q : Option Addr) (l : Row) : Prop := l ≠ [] → ∃ g o, q = some ⟨g, o, none⟩ ∧ n ≤ g ∧ ∀ i, i < l.length → (∃ v, w.cell? ⟨g, o + i, none⟩ = some v) ∧ w.frozen? ⟨g, o + i, none⟩ = false
/-- it ends, and changes nothing that was there -/
abbrev Ends (f : Nat) (args : Array Value) (w : World) : Prop := Calls Tryd.prog f args w fun e w' => ∃ v, e = .returned v ∧ Hid (Below w.heap.size w w')
/-- a row is told -/
abbrev Tells (f : Nat) (args : Array Value) (w : World) (l : Row) : Prop := Calls Tryd.prog f args w fun e w' => ∃ q d, e = .returned (.slice q l.length d) ∧ Hid (Rd w' q d l ∧ Below w.heap.size w w')
/-- a row of its own is told -/
abbrev TellsOwn (f : Nat) (args : Array Value) (w : World) (l : Row) : Prop := Calls Tryd.prog f args w fun e w' => ∃ q d, e = .returned (.slice q l.length d) ∧ Hid (Rd w' q d l ∧ Lw w.heap.size w' q l ∧ Below w.heap.size w w')
/-- what a closure says of both -/
def Want (K : Nat) (f : Bool → Bool → Bool) : Prop := (K = 61 ∨ K = 61) ∧ ∀ (X Y : Bool) (w : World), Calls Tryd.prog K #[.bool X, .bool Y] w fun e w' => e = .returned (.bool (f X Y)) ∧ w' = w
theorem want_union : Want 61 (fun x y => x || y) := ⟨.inl rfl, fun X Y w => by
  cases X <;> cases Y
  all_goals
    go_enter Tryd.func61, Tryd.ntmps61
    go_wp2
    go_ret
    exact ⟨rfl, rfl⟩⟩
/-- what was picked so far -/
structure PI (w0 : World) (B K : Nat) (f : Bool → Bool → Bool) (T : List Told) (w : World) : Prop where
  below : Below B w0 w
  box : ∃ t, w.heap[B]? = some (.cells #[.func (.func K) #[] #[]] t (0, 0))
  set : ∃ v, w.heap[B + 1]? = some (.cells #[v] 30 (0, 0)) ∧ Own (B + 2) w v (pickd f T)
  size : B + 2 ≤ w.heap.size
theorem owns_like {w w' : World} {base : Nat} {e : TypeId} {size : Nat} {v : Value} {n : Nat} {xs : List Value} (h : w.ownsRow base e size v n xs) (hh : w'.heap = w.heap) : w'.ownsRow base e size v n xs := by
  unfold World.ownsRow at h ⊢
  rw [hh]
  exact h
theorem PI.like {w0 : World} {B K : Nat} {f : Bool → Bool → Bool} {T : List Told} {w w' : World} (h : PI w0 B K f T w) (h1 : w'.heap = w.heap) (h2 : w'.os = w.os) (h3 : w'.tape = w.tape) (h4 : w'.output = w.output) : PI w0 B K f T w' := by
  obtain ⟨k1, k2, ⟨v, k3, k4⟩, k5⟩ := h
  refine ⟨⟨h2.trans k1.os, h3.trans k1.tape, h4.trans k1.output, by rw [h1]; exact k1.size, fun k hk => by rw [h1]; exact k1.block k hk⟩, by rw [h1]; exact k2, ⟨v, by rw [h1]; exact k3, owns_like k4 h1⟩, by rw [h1]; exact k5⟩
/-- a text more is picked -/
theorem PI.put {w0 : World} {B K : Nat} {f : Bool → Bool → Bool} {T : List Told} {w w' : World} {v' : Value} {l : Row} (h : PI w0 B K f T w) (hb : Below (B + 2) w w') (ho : Own (B + 2) w' v' l) (T' : List Told) (hl : pickd f T' = l) : PI w0 B K f T' (w'.setCell ⟨B + 1, 0, none⟩ v') := by
  obtain ⟨k1, ⟨t, k2⟩, ⟨u, k3, k4⟩, k5⟩ := h
  have h1 : w'.heap[B + 1]? = some (.cells #[u] 30 (0, 0)) := (hb.block (B + 1) (by omega)).trans k3
  refine ⟨?_, ⟨t, ?_⟩, ⟨v', one_setCell h1, ?_⟩, ?_⟩
  · exact (k1.trans (hb.mono (by omega))).setCell (by show B ≤ B + 1; omega) _
  · rw [heap_setCell_other _ _ _ _ (by show B ≠ B + 1; omega)]
    exact (hb.block B (by omega)).trans k2
  · rw [hl]
    exact ownsRow_setCell_other ho (fun h => by
      have := (World.ownsRow.lt ho _ h).1
      have h2 : B + 2 ≤ B + 1 := this
      omega) _
  · have := hb.size
    simp
    omega
set_option maxHeartbeats 2000000 in
set_option maxRecDepth 100000 in
/-- the closure is told of a text -/
theorem tell_any {K : Nat} {f : Bool → Bool → Bool} (hK : Want K f) (w0 w : World) (B : Nat) (T : List Told) (s : Nm) (X Y : Bool) (hT : T.length ≤ 2200000) (h : PI w0 B K f T w) :
    Calls Tryd.prog 77 #[txt s, .bool X, .bool Y, .pointer (some ⟨B, 0, none⟩), .pointer (some ⟨B + 1, 0, none⟩)] w fun e w' => e = .returned (.tuple #[]) ∧ Hid (PI w0 B K f (T ++ [(s, X, Y)]) w') := by
  obtain ⟨t, hb⟩ := h.box
  obtain ⟨v, hv, ho⟩ := h.set
  have c0 := cell_of_one hb
  have c1 := cell_of_one hv
  have H := hid h
  have HK := hid hK.2
  have hlen := pickd_len f T
  obtain ⟨v', W', hrun, ho', hbl⟩ := ho.push h.size s (by omega)
  have HR := hid hrun
  have HO := hid ho'
  have HB := hid hbl
  have hw1 : W'.heap[B + 1]? = some (.cells #[v] 30 (0, 0)) := (hbl.block (B + 1) (by omega)).trans hv
  have c2 := cell_of_one hw1
  have f2 := free_of_one hw1
  obtain ⟨p, c, hsh, hcap⟩ := ho'.shape
  obtain ⟨N, hN⟩ : ∃ N, (pickd f T ++ [s]).length = N := ⟨_, rfl⟩
  rw [hN] at hsh
  clear hcap hN
  subst hsh
  have hKs := hK.1
  clear hK h hb hv ho hrun ho' hbl hw1 hlen hT
  cases hf : f X Y with
  | false =>
    have HE := hid (H.out.like rfl rfl rfl rfl (w' := w))
    have HP : Hid (pickd f (T ++ [(s, X, Y)]) = pickd f T) := pickd_no hf
    have HC := hid (HK.out X Y)
    rw [hf] at HC
    clear hf
    rcases hKs with rfl | rfl
    all_goals
      go_enter Tryd.func77, Tryd.ntmps77
      go_wp2_with fail
      refine (HC.out w).mono ?_; rintro e w1 ⟨rfl, rfl⟩
      go_wp2_with fail
      go_end0
      refine ⟨rfl, H.out.below, H.out.box, ?_, H.out.size⟩
      rw [HP.out]
      exact H.out.set
  | true =>
    have HE := hid (H.out.put HB.out HO.out (T ++ [(s, X, Y)]) (pickd_yes hf))
    have HC := hid (HK.out X Y)
    rw [hf] at HC
    clear hf
    rcases hKs with rfl | rfl
    all_goals
      go_enter Tryd.func77, Tryd.ntmps77
      go_wp2_with fail
      refine (HC.out w).mono ?_; rintro e w1 ⟨rfl, rfl⟩
      go_wp2_with (refine wpList_append_runs rfl _ _ 30 30 rfl _ _ _ _ rfl rfl HR.out (Hid.out ?_))
      refine hid ?_
      go_wp2_with fail
      go_end0
      exact ⟨rfl, HE.out⟩
theorem pi_start (w : World) (K : Nat) (f : Bool → Bool → Bool) (t : TypeId) : PI w w.heap.size K f [] ((w.alloc (.cells #[.func (.func K) #[] #[]] t)).alloc (.cells #[.slice none 0 0] 30)) := by
  have h1 := below_alloc w (.cells #[.func (.func K) #[] #[]] t)
  have h2 := below_alloc (w.alloc (.cells #[.func (.func K) #[] #[]] t)) (.cells #[.slice none 0 0] 30)
  have hs : (w.alloc (.cells #[.func (.func K) #[] #[]] t)).heap.size = w.heap.size + 1 := by simp
  refine ⟨h1.trans (h2.mono h1.size), ⟨t, ?_⟩, ⟨.slice none 0 0, ?_, ?_⟩, ?_⟩
  · rw [h2.block w.heap.size (by rw [hs]; omega)]
    exact heap_alloc_new w _
  · have := heap_alloc_new (w.alloc (.cells #[.func (.func K) #[] #[]] t)) (.cells #[.slice none 0 0] 30)
    rw [hs] at this
    exact this
  · exact ⟨by simp [pickd], .inl ⟨rfl, rfl⟩⟩
  · simp
theorem Own.lw {B n : Nat} {w : World} {p : Option Addr} {m c : Nat} {l : Row} (h : Own B w (.slice p m c) l) (hn : n ≤ B) : Lw n w p l := fun hne => by
  have hp : 0 < l.length := List.length_pos_iff.2 hne
  rcases h.2 with ⟨h1, h0⟩ | ⟨g, cap, cur, h1, hg, hc, hnc, _⟩
  · omega
  · injection h1 with e1 e2 e3
    subst e1 e2 e3
    refine ⟨g, 0, rfl, by omega, fun i hi => ⟨⟨txt l[i], ?_⟩, ?_⟩⟩
    · have := World.ownsRow.cells h (g := g) rfl i (txt l[i]) (by simp [hi])
      rw [Go.WideShapes.add_plain] at this
      exact this
    · exact World.ownsRow.frozenAt h _
set_option maxHeartbeats 1000000 in
set_option maxRecDepth 100000 in
/-- pick -/
theorem pick_any {K : Nat} {f : Bool → Bool → Bool} (hK : Want K f) (p : Option Addr) (c : Nat) (a : Row) (p' : Option Addr) (c' : Nat) (b : Row) (w : World) (ha : Rd w p c a) (hb : Rd w p' c' b) (hla : a.length ≤ 1100000) (hlb : b.length ≤ 1100000) (L : Row) (hL : pickd f (side (a.length + b.length) a b) = L) :
    TellsOwn 60 #[.slice p a.length c, .slice p' b.length c', .func (.func K) #[] #[]] w L := by
  have HV : Hid (InvP w.heap.size w (PI w w.heap.size K f) w.heap.size (w.heap.size + 1)) := ⟨fun T w h => h.below, fun T w w' h h1 h2 h3 h4 => h.like h1 h2 h3 h4, fun T s X Y w1 hT h => tell_any hK w w1 _ T s X Y hT h⟩
  have HAl := hid fun (t : TypeId) => along_P p c a p' c' b w.heap.size w _ (PI w w.heap.size K f) _ _ ha hb (Nat.le_refl _) HV.out (pi_start w K f t) hla hlb
  have HL := hid hL
  generalize side (a.length + b.length) a b = R at *
  generalize a.length = n at *
  generalize b.length = m at *
  clear hL HV ha hb hK hla hlb
  go_enter Tryd.func60, Tryd.ntmps60
  go_wp2_with fail
  refine (HAl.out _).mono ?_; rintro e w1 ⟨rfl, hI⟩
  obtain ⟨v, hv, ho⟩ := hI.out.set
  have HB := hid hI.out.below
  have c1 := cell_of_one hv
  rw [HL.out] at ho
  obtain ⟨q, d, hsh, _⟩ := ho.shape
  subst hsh
  have HO := hid ho
  clear HAl hv ho hI
  go_wp2_with fail
  go_ret
  exact ⟨q, d, rfl, HO.out.rd, HO.out.lw (by omega), HB.out⟩
theorem TellsOwn.tells {f : Nat} {args : Array Value} {w : World} {l : Row} (h : TellsOwn f args w l) : Tells f args w l := h.mono (by rintro e w' ⟨q, d, rfl, hh⟩; exact ⟨q, d, rfl, hh.out.1, hh.out.2.2⟩)
theorem TellsOwn.ends {f : Nat} {args : Array Value} {w : World} {l : Row} (h : TellsOwn f args w l) : Ends f args w := h.mono (by rintro e w' ⟨q, d, rfl, hh⟩; exact ⟨_, rfl, hh.out.2.2⟩)
set_option maxHeartbeats 1000000 in
/-- Union -/
theorem union_own (p : Option Addr) (c : Nat) (a : Row) (p' : Option Addr) (c' : Nat) (b : Row) (w : World) (ha : Rd w p c a) (hb : Rd w p' c' b) (hla : a.length ≤ 1100000) (hlb : b.length ≤ 1100000) (L : Row) (hL : pickd (fun x y => x || y) (side (a.length + b.length) a b) = L) :
    TellsOwn 52 #[.slice p a.length c, .slice p' b.length c'] w L := by
  have HP := hid (pick_any want_union p c a p' c' b w ha hb hla hlb L hL)
  clear hL ha hb hla hlb
  generalize a.length = n at *
  generalize b.length = m at *
  go_enter Tryd.func52, Tryd.ntmps52
  go_wp2_with fail
  refine HP.out.mono ?_; rintro e w1 ⟨q, d, rfl, hh⟩
  go_wp2_with fail
  go_ret
  exact ⟨q, d, rfl, hh.out⟩
theorem union_any (p : Option Addr) (c : Nat) (a : Row) (p' : Option Addr) (c' : Nat) (b : Row) (w : World) (ha : Rd w p c a) (hb : Rd w p' c' b) (hla : a.length ≤ 1100000) (hlb : b.length ≤ 1100000) (hra : Ris a) (hrb : Ris b) : TellsOwn 52 #[.slice p a.length c, .slice p' b.length c'] w (insAll a b) :=
  union_own p c a p' c' b w ha hb hla hlb _ ((side_spec _ a b (Nat.le_refl _) hra hrb).union hra)
end Go.Proofs.YtppgifaegnmciaaDoor
