/- BnState, BnFin. -/
import Derived.Test.YtbfllifgmlkndaaGreatDoorM49
namespace Go.Proofs.YtbfllifgmlkndaaGreatDoor
open Go.RowKit
open Slot

/-- a letter that may be on its way -/
def GoodLt (C : List Int) (n : Nat) (l : Lt) : Prop := l.frm < n ∧ l.dst < n ∧ l.dst ≠ l.frm ∧ ∃ p, GoodP (oN C n) l.frm p ∧ l.s = encS p
/-- the net, its letters -/
structure Ms (w wr : World) (NC : Array Value) (C : List Int) (n lb : Nat) (bs vbs : Nat → Nat) (Fs : Nat → Nat → Prop) (vs : Nat → Vw) (os : Nat → List (Int × Bs)) (m : Nat) (wv : Value) (L : List Lt) : Prop where
  nt : Nt w wr C n n bs vbs Fs vs os m
  way : Wy w.heap.size wr wv L
  lets : ∀ l ∈ L, GoodLt C n l
  row : Pts wr lb bs n
  net : wr.heap[w.heap.size]? = some (.cells NC 63 (0, 0))
theorem Ms.call {w wr w' : World} {NC : Array Value} {C : List Int} {n lb : Nat} {bs vbs : Nat → Nat} {Fs : Nat → Nat → Prop} {vs : Nat → Vw} {os : Nat → List (Int × Bs)} {m : Nat} {wv : Value} {L : List Lt} (h : Ms w wr NC C n lb bs vbs Fs vs os m wv L) (hb : Below wr.heap.size wr w') : Ms w w' NC C n lb bs vbs Fs vs os m wv L :=
  ⟨h.nt.call hb, h.way.keep (fun g _ e => hb.block g (Array.getElem?_eq_some_iff.1 e).1), h.lets, h.row.keep (fun _ e => hb.block lb (Array.getElem?_eq_some_iff.1 e).1), (hb.block _ (Array.getElem?_eq_some_iff.1 h.net).1).trans h.net⟩
theorem Ms.drew {w wr : World} {NC : Array Value} {C : List Int} {n lb : Nat} {bs vbs : Nat → Nat} {Fs : Nat → Nat → Prop} {vs : Nat → Vw} {os : Nat → List (Int × Bs)} {m : Nat} {wv : Value} {L : List Lt} (h : Ms w wr NC C n lb bs vbs Fs vs os m wv L) : Ms w wr.drew NC C n lb bs vbs Fs vs os m wv L := h.call (Below.refl _ _).drew
/-- a call of a node -/
theorem Ms.node {w wr w' : World} {NC : Array Value} {C : List Int} {n lb : Nat} {bs vbs : Nat → Nat} {Fs Fs' : Nat → Nat → Prop} {vs vs' : Nat → Vw} {os os' : Nat → List (Int × Bs)} {m m' : Nat} {wv : Value} {L : List Lt} (h : Ms w wr NC C n lb bs vbs Fs vs os m wv L) {i : Nat} (hi : i < n) {F0 : Nat → Prop} (hk : Kp (Fs i) F0 wr w') (hN : Nt w w' C n n bs vbs Fs' vs' os' m') : Ms w w' NC C n lb bs vbs Fs' vs' os' m' wv L :=
  ⟨hN, h.way.keep (fun _ _ e => kp_keep (h.nt.ty i hi) hk e (by decide) (by decide) (by decide)), h.lets, h.row.keep (fun _ e => kp_keep (h.nt.ty i hi) hk e (by decide) (by decide) (by decide)), (kp_keep (h.nt.ty i hi) hk h.net (by decide) (by decide) (by decide)).trans h.net⟩
/-- the letters turn -/
theorem Ms.post {w wr w' : World} {NC : Array Value} {C : List Int} {n lb : Nat} {bs vbs : Nat → Nat} {Fs : Nat → Nat → Prop} {vs : Nat → Vw} {os : Nat → List (Int × Bs)} {m : Nat} {wv wv' : Value} {L L' : List Lt} (h : Ms w wr NC C n lb bs vbs Fs vs os m wv L) (hs : Sk w.heap.size wv wv' wr w') (hw : Wy w.heap.size w' wv' L') (hl : ∀ l ∈ L', GoodLt C n l) : Ms w w' NC C n lb bs vbs Fs vs os m wv' L' :=
  ⟨h.nt.sk h.way hs, hw, hl, h.row.keep (fun _ e => hs.keep _ (Array.getElem?_eq_some_iff.1 e).1 (h.way.not e (by decide))), (hs.keep _ (Array.getElem?_eq_some_iff.1 h.net).1 (h.way.not h.net (by decide))).trans h.net⟩
theorem Ms.tight {w wr : World} {NC : Array Value} {C : List Int} {n lb : Nat} {bs vbs : Nat → Nat} {Fs : Nat → Nat → Prop} {vs : Nat → Vw} {os : Nat → List (Int × Bs)} {m : Nat} {wv : Value} {L : List Lt} (h : Ms w wr NC C n lb bs vbs Fs vs os m wv L) (h0 : ∀ i, i < n → os i = []) : Ms w wr NC C n lb bs vbs Fs vs os 0 wv L :=
  ⟨⟨h.nt.bus, h.nt.ty, h.nt.low, h.nt.apart, h.nt.inv, h.nt.good, fun i hi => by rw [h0 i hi]; exact Nat.le_refl _, h.nt.bel⟩, h.way, h.lets, h.row, h.net⟩
theorem Ms.none {w wr : World} {NC : Array Value} {C : List Int} {n lb : Nat} {bs vbs : Nat → Nat} {Fs : Nat → Nat → Prop} {vs : Nat → Vw} {os : Nat → List (Int × Bs)} {wv : Value} {L : List Lt} (h : Ms w wr NC C n lb bs vbs Fs vs os 0 wv L) (i : Nat) (hi : i < n) : os i = [] := List.length_eq_zero_iff.1 (Nat.le_zero.1 (h.nt.len i hi))
/-- what a node sends goes on its way: the letters of its row -/
def ltOf (f : Nat) (e : Int × Bs) : Lt := ⟨f, e.1.toNat, e.2⟩
theorem good_lt {C : List Int} {n f : Nat} {O : List (Int × Bs)} (hf : f < n) (h : GoodO C n f O) : ∀ l ∈ O.map (ltOf f), GoodLt C n l := fun l hl => by
  obtain ⟨e, he, rfl⟩ := List.mem_map.1 hl
  obtain ⟨t, p, rfl, h1, h2, h3⟩ := h e he
  exact ⟨hf, by show ((t : Int)).toNat < n; omega, by show ((t : Int)).toNat ≠ f; omega, p, h3, rfl⟩
theorem lt_cells {f : Nat} {C : List Int} {n : Nat} {O : List (Int × Bs)} (h : GoodO C n f O) {e : Int × Bs} (he : e ∈ O) : ltCells (ltOf f e) = #[.int .i64 (f : Int), .int .i64 e.1, .string ⟨e.2.toArray⟩] := by
  obtain ⟨t, p, rfl, -⟩ := h e he
  show #[Value.int .i64 (f : Int), .int .i64 (((t : Int).toNat : Nat) : Int), .string ⟨(encS p).toArray⟩] = _
  rw [Int.toNat_natCast]
/-- a letter in a box of its own, apart from the row -/
structure Bx (w : World) (xb : Nat) (v : Value) (l : Lt) : Prop where
  box : w.heap[xb]? = some (.cells (ltCells l) 71 (0, 0))
  far : v.ownBlock ≠ some xb
theorem Bx.call {w w' : World} {xb : Nat} {v : Value} {l : Lt} (h : Bx w xb v l) (hb : Below w.heap.size w w') : Bx w' xb v l := ⟨(hb.block _ (Array.getElem?_eq_some_iff.1 h.box).1).trans h.box, h.far⟩
theorem Bx.sk {B : Nat} {w w' : World} {xb : Nat} {v v' : Value} {l : Lt} (h : Bx w xb v l) (hs : Sk B v v' w w') : Bx w' xb v' l := by
  have hl := (Array.getElem?_eq_some_iff.1 h.box).1
  exact ⟨(hs.keep _ hl h.far).trans h.box, fun e => (hs.new _ e).elim h.far (fun c => by omega)⟩
theorem Bx.node {w w' : World} {F F' : Nat → Prop} {xb : Nat} {v : Value} {l : Lt} (h : Bx w xb v l) (ht : Ty w F) (hk : Kp F F' w w') : Bx w' xb v l := ⟨(kp_keep ht hk h.box (by decide) (by decide) (by decide)).trans h.box, h.far⟩
/-- one more letter: where the row lies behind -/
theorem ms_push {w wr : World} {NC : Array Value} {C : List Int} {n lb : Nat} {bs vbs : Nat → Nat} {Fs : Nat → Nat → Prop} {vs : Nat → Vw} {os : Nat → List (Int × Bs)} {m : Nat} {wv : Value} {L : List Lt} (h : Ms w wr NC C n lb bs vbs Fs vs os m wv L) (hl : L.length ≤ 100000) (l : Lt) (hg : GoodLt C n l) :
    ∃ a c W', (Builtin.append_ #[66, 66] 66 #[wv, .slice (some ⟨wr.heap.size, 0, none⟩) 1 1]).run Tryz.prog (wr.alloc (.cells (ltCells l) 71)) = .ok (.slice a (L.length + 1) c) W' ∧ Ms w W' NC C n lb bs vbs Fs vs os m (.slice a (L.length + 1) c) (L ++ [l]) ∧ L.length + 1 ≤ c ∧ ∀ xb x, Bx wr xb wv x → Bx W' xb (.slice a (L.length + 1) c) x := by
  have hb := below_alloc wr (.cells (ltCells l) 71)
  have h2 := h.call hb
  have hB : w.heap.size ≤ (wr.alloc (.cells (ltCells l) 71)).heap.size := h2.nt.bel.size
  obtain ⟨v', W', hr, hw, hs⟩ := wy_push h2.way hB hl wr.heap.size l (heap_alloc_new wr _)
  obtain ⟨a, c, rfl, hc, -⟩ := hw.read
  rw [List.length_append] at hr hw hs hc
  exact ⟨a, c, W', hr, h2.post hs hw (fun x hx => (List.mem_append.1 hx).elim (h.lets x) (fun e => by rw [List.mem_singleton.1 e]; exact hg)), hc, fun xb x hx => (hx.call hb).sk hs⟩
/-- a letter is taken out -/
theorem ms_cut {w wr : World} {NC : Array Value} {C : List Int} {n lb g c : Nat} {bs vbs : Nat → Nat} {Fs : Nat → Nat → Prop} {vs : Nat → Vw} {os : Nat → List (Int × Bs)} {m : Nat} {L : List Lt} (h : Ms w wr NC C n lb bs vbs Fs vs os m (.slice (some ⟨g, 0, none⟩) L.length c) L) (hl : L.length ≤ 100000) (k : Nat) (hk : k < L.length) (d : Nat) (y : Addr) (hy : L.length - (k + 1) ≠ 0 → y = ⟨g, (k + 1) * 3, none⟩) :
    ∃ a c' W', (Builtin.append_ #[66, 66] 66 #[.slice (some ⟨g, 0, none⟩) k k, .slice (some y) (L.length - (k + 1)) d]).run Tryz.prog wr = .ok (.slice a (L.length - 1) c') W' ∧ Ms w W' NC C n lb bs vbs Fs vs os m (.slice a (L.length - 1) c') (L.take k ++ L.drop (k + 1)) ∧ (L.take k ++ L.drop (k + 1)).length = L.length - 1 ∧ L.length - 1 ≤ c' ∧ ∀ xb x, Bx wr xb (.slice (some ⟨g, 0, none⟩) L.length c) x → Bx W' xb (.slice a (L.length - 1) c') x := by
  obtain ⟨v', W', hr, hw, hs⟩ := wy_cut h.way h.nt.bel.size hl k hk d y hy
  obtain ⟨a, c', rfl, hc, -⟩ := hw.read
  have e : (L.take k ++ L.drop (k + 1)).length = L.length - 1 := by rw [List.length_append, List.length_take, List.length_drop]; omega
  rw [e] at hr hw hs hc
  exact ⟨a, c', W', hr, h.post hs hw (fun x hx => (List.mem_append.1 hx).elim (fun q => h.lets x (List.mem_of_mem_take q)) (fun q => h.lets x (List.mem_of_mem_drop q))), e, hc, fun xb x hx => hx.sk hs⟩
theorem infoLtc (l : Lt) : (Tryz.prog.info? 71).map (·.size) = some (ltCells l).size := by show _ = some 3; kernel_rfl
theorem range2n {w : World} {x o : Nat} {u v : Value} (h1 : w.cell? ⟨x, o, none⟩ = some u) (h2 : w.cell? ⟨x, o + 1, none⟩ = some v) : w.rangeAt x o (#[u, v] : Array Value).toList := fun j y hy => by
  have hj : j < 2 := by simpa using (List.getElem?_eq_some_iff.1 hy).1
  match j, hj with
  | 0, _ => rw [← hy]; exact h1
  | 1, _ => rw [← hy]; exact h2
end Go.Proofs.YtbfllifgmlkndaaGreatDoor

namespace Go.Proofs.YtbfllifgmlkndaaGreatDoor
open Go.RowKit
open Slot

/-- what goes out of a node in the end: pongs -/
def GoodQ (C : List Int) (n i : Nat) (O : List (Int × Bs)) : Prop := ∀ e ∈ O, ∃ (t : Nat) (p : Pk), e = ((t : Int), encS p) ∧ t < n ∧ t ≠ i ∧ GoodP (oN C n) i p ∧ p.kind = 2
theorem GoodQ.app {C : List Int} {n i : Nat} {O M : List (Int × Bs)} (h : GoodQ C n i O) (k : GoodQ C n i M) : GoodQ C n i (O ++ M) := fun e he => (List.mem_append.1 he).elim (h e) (k e)
/-- whose slots are seen: of the pairs ahead of f and t -/
def Knw (C : List Int) (n : Nat) (vs : Nat → Vw) (f t : Nat) : Prop := ∀ f' t', f' < n → t' < n → f' ≠ t' → (f' < f ∨ (f' = f ∧ t' < t)) → ∀ s, s < 16384 → oN C n s = f' → (vs t').own s = f'
theorem know_take {C : List Int} {n : Nat} {vs : Nat → Vw} {f t d g : Nat} {p : Pk} (h : Knw C n vs f t) (hn : n ≤ 64) (hg : GoodP (oN C n) g p) (hgn : g < n) (hi : Inv (oN C n) d (vs d)) (hgd : g ≠ d) : Knw C n (upd vs d (bView (vs d) (encS p))) f t := fun f' t' h1 h2 h3 h4 s hs ho => by
  have hk := h f' t' h1 h2 h3 h4 s hs ho
  by_cases e : t' = d
  · subst e
    rw [upd_same]
    obtain ⟨-, -, -, k4, -⟩ := good_take hg (by omega) hi hgd
    rw [k4 s hs (by omega)]; exact hk
  · rw [upd_ne _ _ e]; exact hk
/-- the net in the end -/
structure Fz (w wr : World) (NC : Array Value) (C : List Int) (n lb : Nat) (bs vbs : Nat → Nat) (Fs : Nat → Nat → Prop) (vs : Nat → Vw) (os : Nat → List (Int × Bs)) (m f t : Nat) : Prop where
  nt : Nt w wr C n n bs vbs Fs vs os m
  row : Pts wr lb bs n
  net : wr.heap[w.heap.size]? = some (.cells NC 63 (0, 0))
  pong : ∀ i, i < n → GoodQ C n i (os i)
  know : Knw C n vs f t
theorem Fz.call {w wr w' : World} {NC : Array Value} {C : List Int} {n lb : Nat} {bs vbs : Nat → Nat} {Fs : Nat → Nat → Prop} {vs : Nat → Vw} {os : Nat → List (Int × Bs)} {m f t : Nat} (h : Fz w wr NC C n lb bs vbs Fs vs os m f t) (hb : Below wr.heap.size wr w') : Fz w w' NC C n lb bs vbs Fs vs os m f t :=
  ⟨h.nt.call hb, h.row.keep (fun _ e => hb.block lb (Array.getElem?_eq_some_iff.1 e).1), (hb.block _ (Array.getElem?_eq_some_iff.1 h.net).1).trans h.net, h.pong, h.know⟩
theorem Nt.relen {w0 w : World} {C : List Int} {n q : Nat} {bs vbs : Nat → Nat} {Fs : Nat → Nat → Prop} {vs : Nat → Vw} {os : Nat → List (Int × Bs)} {m m' : Nat} (h : Nt w0 w C n q bs vbs Fs vs os m) (hl : ∀ i, i < q → (os i).length ≤ m') : Nt w0 w C n q bs vbs Fs vs os m' := ⟨h.bus, h.ty, h.low, h.apart, h.inv, h.good, hl, h.bel⟩
theorem Fz.mono {w wr : World} {NC : Array Value} {C : List Int} {n lb : Nat} {bs vbs : Nat → Nat} {Fs : Nat → Nat → Prop} {vs : Nat → Vw} {os : Nat → List (Int × Bs)} {m m' f t : Nat} (h : Fz w wr NC C n lb bs vbs Fs vs os m f t) (hm : m ≤ m') : Fz w wr NC C n lb bs vbs Fs vs os m' f t :=
  ⟨h.nt.relen (fun i hi => Nat.le_trans (h.nt.len i hi) hm), h.row, h.net, h.pong, h.know⟩
theorem Fz.next {w wr : World} {NC : Array Value} {C : List Int} {n lb : Nat} {bs vbs : Nat → Nat} {Fs : Nat → Nat → Prop} {vs : Nat → Vw} {os : Nat → List (Int × Bs)} {m f : Nat} (h : Fz w wr NC C n lb bs vbs Fs vs os m f n) : Fz w wr NC C n lb bs vbs Fs vs os m (f + 1) 0 :=
  ⟨h.nt, h.row, h.net, h.pong, fun f' t' h1 h2 h3 h4 => h.know f' t' h1 h2 h3 (by omega)⟩
theorem Fz.skip {w wr : World} {NC : Array Value} {C : List Int} {n lb : Nat} {bs vbs : Nat → Nat} {Fs : Nat → Nat → Prop} {vs : Nat → Vw} {os : Nat → List (Int × Bs)} {m f : Nat} (h : Fz w wr NC C n lb bs vbs Fs vs os m f f) : Fz w wr NC C n lb bs vbs Fs vs os (m + 1) f (f + 1) :=
  ⟨h.nt.relen (fun i hi => by have := h.nt.len i hi; omega), h.row, h.net, h.pong, fun f' t' h1 h2 h3 h4 => h.know f' t' h1 h2 h3 (by omega)⟩
theorem fz_new {w wr : World} {NC : Array Value} {C : List Int} {n lb : Nat} {bs vbs : Nat → Nat} {Fs : Nat → Nat → Prop} {vs : Nat → Vw} {os : Nat → List (Int × Bs)} {wv : Value} {L : List Lt} (h : Ms w wr NC C n lb bs vbs Fs vs os 0 wv L) : Fz w wr NC C n lb bs vbs Fs vs os 0 0 0 :=
  ⟨h.nt, h.row, h.net, (fun i hi e he => by rw [h.none i hi] at he; cases he), fun f' t' _ _ _ h4 => by omega⟩
/-- behind a ping -/
structure Pz (w wr : World) (NC : Array Value) (C : List Int) (n lb : Nat) (bs vbs : Nat → Nat) (Fs : Nat → Nat → Prop) (vs : Nat → Vw) (os : Nat → List (Int × Bs)) (m f t : Nat) (R : List (Int × Bs)) : Prop where
  nt : Nt w wr C n n bs vbs Fs vs os (m + 1)
  row : Pts wr lb bs n
  net : wr.heap[w.heap.size]? = some (.cells NC 63 (0, 0))
  pong : ∀ i, i < n → i ≠ f → GoodQ C n i (os i)
  len : ∀ i, i < n → i ≠ f → (os i).length ≤ m
  know : Knw C n vs f t
  rowf : os f = R
  form : ∃ Q p, R = Q ++ [((t : Int), encS p)] ∧ GoodQ C n f Q ∧ GoodP (oN C n) f p ∧ p.kind = 1 ∧ Q.length ≤ m
theorem fz_ping {w wr : World} {NC : Array Value} {C : List Int} {n lb : Nat} {bs vbs : Nat → Nat} {Fs : Nat → Nat → Prop} {vs : Nat → Vw} {os : Nat → List (Int × Bs)} {m f t : Nat} (h : Fz w wr NC C n lb bs vbs Fs vs os m f t) (hE : Env w) (hf : f < n) (ht : t < n) (hft : t ≠ f) (hn : n ≤ 64) (hm : m ≤ 1000) :
    Calls Tryz.prog 22 #[.pointer (some ⟨bs f, 0, none⟩), .int .i64 (t : Int)] wr fun e w' => (∃ x, e = .returned x) ∧ ∃ Fs' os' R, Pz w w' NC C n lb bs vbs Fs' vs os' m f t R := by
  refine (nping_any h.nt hE hf t ht hn (by omega)).mono ?_
  rintro e w' ⟨hx, F0, hk, hN⟩
  refine ⟨hx, upd Fs f F0, _, _, hN, h.row.keep (fun _ e => kp_keep (h.nt.ty f hf) hk e (by decide) (by decide) (by decide)), (kp_keep (h.nt.ty f hf) hk h.net (by decide) (by decide) (by decide)).trans h.net, fun i hi hne => ?_, fun i hi hne => ?_, h.know, upd_same _ _ _, os f, tellV (vs f) 1, ?_, h.pong f hf, (h.nt.inv f hf).tell (.inl rfl), rfl, h.nt.len f hf⟩
  · rw [upd_ne _ _ hne]; exact h.pong i hi
  · rw [upd_ne _ _ hne]; exact h.nt.len i hi
  · rw [(tell_one (h.nt.inv f hf) t (by omega) hft 1).2]
/-- letters that are taken, one behind the other -/
structure Dz (w wr : World) (NC : Array Value) (C : List Int) (n lb : Nat) (bs vbs : Nat → Nat) (Fs : Nat → Nat → Prop) (vs : Nat → Vw) (os : Nat → List (Int × Bs)) (m f t : Nat) (R : List (Int × Bs)) (a : Option Addr) (q : Nat) : Prop where
  fz : Fz w wr NC C n lb bs vbs Fs vs os (m + (q + 1 - R.length)) f t
  on : On wr a R Fs n
  form : ∃ Q p, R = Q ++ [((t : Int), encS p)] ∧ GoodQ C n f Q ∧ GoodP (oN C n) f p ∧ p.kind = 1 ∧ Q.length ≤ m
  got : R.length ≤ q → ∀ s, s < 16384 → oN C n s = f → (vs t).own s = f
theorem Dz.call {w wr w' : World} {NC : Array Value} {C : List Int} {n lb : Nat} {bs vbs : Nat → Nat} {Fs : Nat → Nat → Prop} {vs : Nat → Vw} {os : Nat → List (Int × Bs)} {m f t q : Nat} {R : List (Int × Bs)} {a : Option Addr} (h : Dz w wr NC C n lb bs vbs Fs vs os m f t R a q) (hb : Below wr.heap.size wr w') : Dz w w' NC C n lb bs vbs Fs vs os m f t R a q :=
  ⟨h.fz.call hb, h.on.call hb, h.form, h.got⟩
theorem pz_outs {w wr : World} {NC : Array Value} {C : List Int} {n lb : Nat} {bs vbs : Nat → Nat} {Fs : Nat → Nat → Prop} {vs : Nat → Vw} {os : Nat → List (Int × Bs)} {m f t : Nat} {R : List (Int × Bs)} (h : Pz w wr NC C n lb bs vbs Fs vs os m f t R) (hf : f < n) :
    Calls Tryz.prog 13 #[.pointer (some ⟨bs f, 0, none⟩)] wr fun e w' => ∃ a c, e = .returned (.slice a R.length c) ∧ ∃ Fs' os', Dz w w' NC C n lb bs vbs Fs' vs os' m f t R a 0 := by
  refine (nouts_any h.nt hf).mono ?_
  rintro e w' ⟨a, c, rfl, F0, hk, hN, ho⟩
  have hrow := h.row.keep (fun _ e => kp_keep (h.nt.ty f hf) hk e (by decide) (by decide) (by decide))
  have hnet := (kp_keep (h.nt.ty f hf) hk h.net (by decide) (by decide) (by decide)).trans h.net
  rw [h.rowf] at ho ⊢
  obtain ⟨Q, p, hR, -⟩ := h.form
  have hlen : 1 ≤ R.length := by rw [hR]; simp
  refine ⟨a, c, rfl, upd Fs f F0, upd os f [], ⟨hN.relen (fun i hi => ?_), hrow, hnet, fun i hi => ?_, h.know⟩, ho, h.form, fun hq => by omega⟩
  · by_cases e : i = f
    · rw [e, upd_same]; simp
    · rw [upd_ne _ _ e]; have := h.len i hi e; omega
  · by_cases e : i = f
    · rw [e, upd_same]; intro x hx; cases hx
    · rw [upd_ne _ _ e]; exact h.pong i hi e
theorem dz_take {w : World} {NC : Array Value} {C : List Int} {n lb : Nat} {bs vbs : Nat → Nat} {m f t q : Nat} {R : List (Int × Bs)} {a : Option Addr} (hform : ∃ Q p, R = Q ++ [((t : Int), encS p)] ∧ GoodQ C n f Q ∧ GoodP (oN C n) f p ∧ p.kind = 1 ∧ Q.length ≤ m) (hE : Env w) (hf : f < n) (ht : t < n) (hft : t ≠ f) (hn : n ≤ 64) (hm : m ≤ 1000) (hq : q < R.length) :
    ∃ (d : Nat) (p : Pk), R[q] = ((d : Int), encS p) ∧ d < n ∧ ∀ (wr : World) (Fs : Nat → Nat → Prop) (vs : Nat → Vw) (os : Nat → List (Int × Bs)), Dz w wr NC C n lb bs vbs Fs vs os m f t R a q → Calls Tryz.prog 17 #[.pointer (some ⟨bs d, 0, none⟩), .string ⟨(encS p).toArray⟩] wr fun e w' => (∃ x, e = .returned x) ∧ (∀ k, k < wr.heap.size → (∀ j, j < n → ¬ Fs j k) → w'.heap[k]? = wr.heap[k]?) ∧ ∃ Fs' vs' os', Dz w w' NC C n lb bs vbs Fs' vs' os' m f t R a (q + 1) := by
  obtain ⟨Q, pp, hR, hQ, hpp, hp1, hQm⟩ := hform
  have hRl : R.length = Q.length + 1 := by rw [hR]; simp
  have key : ∃ (d : Nat) (p : Pk), R[q] = ((d : Int), encS p) ∧ d < n ∧ d ≠ f ∧ GoodP (oN C n) f p ∧ ((q < Q.length ∧ p.kind = 2) ∨ (q = Q.length ∧ d = t ∧ p.kind = 1)) := by
    by_cases hql : q < Q.length
    · have hmem : R[q] ∈ Q := by
        have e : R[q] = Q[q] := by simp only [hR]; rw [List.getElem_append_left hql]
        rw [e]; exact List.getElem_mem hql
      obtain ⟨d, p, h1, h2, h3, h4, h5⟩ := hQ _ hmem
      exact ⟨d, p, h1, h2, h3, h4, .inl ⟨hql, h5⟩⟩
    · have hqe : q = Q.length := by omega
      have e : R[q] = ((t : Int), encS pp) := by simp only [hR]; rw [List.getElem_append_right (by omega)]; simp
      exact ⟨t, pp, e, ht, hft, hpp, .inr ⟨hqe, rfl, hp1⟩⟩
  obtain ⟨d, p, h1, h2, h3, h4, h5⟩ := key
  refine ⟨d, p, h1, h2, fun wr Fs vs os h => ?_⟩
  refine (ntake_any h.fz.nt hE h2 h4 hf (fun e => h3 e.symm) hn (by omega)).mono ?_
  rintro e w' ⟨hx, F0, hk, hN⟩
  obtain ⟨-, -, k3, -, k5⟩ := good_take h4 (by omega) (h.fz.nt.inv d h2) (fun e => h3 e.symm)
  have hrow := h.fz.row.keep (fun _ e => kp_keep (h.fz.nt.ty d h2) hk e (by decide) (by decide) (by decide))
  have hnet := (kp_keep (h.fz.nt.ty d h2) hk h.fz.net (by decide) (by decide) (by decide)).trans h.fz.net
  have hkn := know_take h.fz.know hn h4 hf (h.fz.nt.inv d h2) (fun e => h3 e.symm)
  have hon := h.on.kp h2 hk
  have hkeep : ∀ k, k < wr.heap.size → (∀ j, j < n → ¬ Fs j k) → w'.heap[k]? = wr.heap[k]? := fun k hk1 hk2 => hk.block k hk1 (hk2 d h2)
  rcases h5 with ⟨hql, hk2⟩ | ⟨hqe, hdt, hk1⟩
  · rw [if_neg (by omega)] at k5
    rw [k5, List.append_nil, upd_id os d] at hN
    refine ⟨hx, hkeep, _, _, os, ⟨hN.relen (fun i hi => ?_), hrow, hnet, h.fz.pong, hkn⟩, hon, h.form, fun hq2 => by omega⟩
    have := h.fz.nt.len i hi
    omega
  · rw [if_pos hk1] at k5
    rw [k5] at hN
    refine ⟨hx, hkeep, _, _, _, ⟨hN.relen (fun i hi => ?_), hrow, hnet, fun i hi => ?_, hkn⟩, hon, h.form, fun _ s hs ho => ?_⟩
    · have := hN.len i hi
      omega
    · by_cases e : i = d
      · subst e
        rw [upd_same]
        refine (h.fz.pong i hi).app ?_
        intro x hx
        rw [List.mem_singleton.1 hx]
        have hinv := hN.inv i hi
        rw [upd_same] at hinv
        exact ⟨f, _, rfl, hf, fun e => h3 e.symm, hinv.tell (.inr rfl), rfl⟩
      · rw [upd_ne _ _ e]; exact h.fz.pong i hi
    · rw [hdt] at k3 ⊢
      rw [upd_same]
      exact k3 s hs ho
theorem dz_end {w wr : World} {NC : Array Value} {C : List Int} {n lb : Nat} {bs vbs : Nat → Nat} {Fs : Nat → Nat → Prop} {vs : Nat → Vw} {os : Nat → List (Int × Bs)} {m f t : Nat} {R : List (Int × Bs)} {a : Option Addr} (h : Dz w wr NC C n lb bs vbs Fs vs os m f t R a R.length) : Fz w wr NC C n lb bs vbs Fs vs os (m + 1) f (t + 1) := by
  refine ⟨h.fz.nt.relen (fun i hi => by have := h.fz.nt.len i hi; omega), h.fz.row, h.fz.net, h.fz.pong, fun f' t' h1 h2 h3 h4 s hs ho => ?_⟩
  by_cases e : f' = f ∧ t' = t
  · obtain ⟨rfl, rfl⟩ := e
    exact h.got (Nat.le_refl _) s hs ho
  · exact h.fz.know f' t' h1 h2 h3 (by omega) s hs ho
/-- in the end all see the same -/
theorem Fz.sees {w wr : World} {NC : Array Value} {C : List Int} {n lb : Nat} {bs vbs : Nat → Nat} {Fs : Nat → Nat → Prop} {vs : Nat → Vw} {os : Nat → List (Int × Bs)} {m : Nat} (h : Fz w wr NC C n lb bs vbs Fs vs os m n 0) (hn : n ≤ 64) {i : Nat} (hi : i < n) (s : Nat) (hs : s < 64) : ownZ ((vs i).own s) = ownAt C (s : Int) n :=
  sees_all (h.nt.inv i hi) hn (fun f hf hne s' hs' ho => h.know f i hf hi hne (.inl hf) s' hs' ho) s hs

end Go.Proofs.YtbfllifgmlkndaaGreatDoor
