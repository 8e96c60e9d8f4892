/- The keys of links' map are collected. -/
import Derived.Test.YtjcfbnhmljlkpaaLkKeys
import Derived.RangeFuncNested
import Derived.RangeFuncLeaves
import Derived.RangeFuncBox
import Derived.Maps.AppendAt
namespace Go.Proofs.Ytjcfbnhmljlkpaa
open Go.RowKit Go.Maps
attribute [local go_sem] Oper.semAt_some

abbrev keysF (bm : Nat) : Value := .func (.func 37) #[] #[.pointer (some ⟨bm, 0, none⟩)]
theorem cell_two_new (W : World) (x : Int × Int) : ∀ j u, [Value.int .i64 x.1, Value.int .i64 x.2][j]? = some u → (W.alloc (.cells #[.int .i64 x.1, .int .i64 x.2] 41)).cell? ((⟨W.heap.size, 0, none⟩ : Addr).add j) = some u := fun j u hj => by
  rw [Go.WideShapes.add_plain, cell_of_row _ _ _ _ _ _ (heap_alloc_new W _)]
  simpa using hj
theorem gkeys_any (mb : Option Nat) (w : World) : Calls Try.prog 29 #[.map mb] w fun e w' => e = .returned (keysF w.heap.size) ∧ w' = w.alloc (.cells #[.map mb] 51) := by
  go_enter Try.func29, Try.ntmps29
  go_wp2_with fail
  go_ret
  exact ⟨rfl, rfl⟩
/-- a block of cells that lies as it lay -/
theorem block_own {β : Type} (B b : Nat) (C : Array Value) (t : TypeId) : OwnFrom B (fun (_ : β) W => W.heap[b]? = some (.cells C t (0, 0))) := fun _ _ _ _ hs hg hr => (grownBy_keeps_cells hg (fun r e => (hr r e).2) hs rfl).trans hs
def ColP2 (D : DataW Value) (w : World) (e : Ending) (w' : World) : Prop :=
  ∃ q d ss, e = .returned (.slice q (ss : List (Int × Int)).length d) ∧ Hid (AllK D ss ∧ OwnP w.heap.size w' (.slice q ss.length d) ss ∧ Below w.heap.size w w')
set_option maxRecDepth 100000 in
set_option maxHeartbeats 4000000 in
theorem gappend_any (bm m : Nat) (D : DataW Value) (w : World) (hm : w.heap[bm]? = some (.cells #[.map (some m)] 51 (0, 0))) (hom : OM w m (size D) D) (hN : size D ≤ 100000) :
    Calls Try.prog 40 #[.slice none 0 0, keysF bm] w (ColP2 D w) := by
  refine (callsIn_wide (n := 4)).1 ?_
  refine callsIn_of_wp_marks Try.func40 rfl trivial ?_ rfl
  simp only [Try.ntmps40, List.size_toArray, List.length_cons, List.length_nil, Nat.reduceAdd, Nat.reduceSub, Array.replicate_succ, Array.replicate_zero, List.push_toArray, List.append_toArray, List.nil_append, List.cons_append]
  refine wpIn_wide.2 ?_
  have hb0 := below_alloc w (.cells #[.slice none 0 0] 48)
  have hbm := (Array.getElem?_eq_some_iff.1 hm).1
  have HM := hid ((hb0.block bm hbm).trans hm)
  have hom' : OM (w.alloc (.cells #[.slice none 0 0] 48)) m (size D) D := by
    have hbl := World.ownsMap.lt hom
    obtain ⟨es, clock, hb, Ft, hs, hD⟩ := hom
    exact ⟨es, clock, (hb0.block m hbl).trans hb, Ft, hs, hD⟩
  have HO := hid hom'
  have HB0 := hid hb0
  have HN := hid hN
  have HX := hid (Boxed.new w 48 (.slice none 0 0))
  clear hm hom hN hb0 hbm hom'
  go_wp2_with fail
  have hs0 : (w.alloc (.cells #[.slice none 0 0] 48)).heap.size = w.heap.size + 1 := World.size_alloc _ _
  have HS0 := hid hs0
  clear hs0
  generalize w.alloc (.cells #[.slice none 0 0] 48) = W0 at *
  obtain ⟨i0, hi, hz0, hz1, hz2⟩ := info_parts infoP
  refine wpIn_wide.1 (wpIn_rangeFunc_ownH (n := 4) (F := Fence.wide) rfl (by omega) (gf := 37) (lb := #[.pointer (some ⟨bm, 0, none⟩)]) rfl trivial (enters_of Try.func37 (by kernel_rfl) rfl)
    (keys_stops 3 bm m D W0 (by omega) HM.out HO.out) walksK_t walksK_b (Below.refl _ _) (fun _ => rfl)
    (fun (pre : List (Int × Int)) (W : World) => (∃ v, Boxed W w.heap.size 48 v ∧ W.ownsRow w.heap.size 41 2 v pre.length (flatP pre) ∧ True) ∧ Below w.heap.size w W) (fun _ _ _ => False)
    (OwnFrom.and (Own.from (holdsRow_own w.heap.size w.heap.size 48 41 2 (fun pre : List (Int × Int) => pre.length) flatP (fun _ _ => True)) _) (ownFrom_below (Nat.le_refl _) (by have := HS0.out; omega))) (fun _ _ _ _ _ hs _ _ => hs)
    ⟨⟨_, HX.out, ⟨rfl, .inl ⟨rfl, rfl⟩⟩, trivial⟩, HB0.out⟩
    (fun x a' W => ∃ Bx, w.heap.size < Bx ∧ W.heap[Bx]? = some (.cells #[.int .i64 x.1, .int .i64 x.2] 41 (0, 0)) ∧ a' = { tmps := #[.slice none 0 0, keysF bm, .pointer (some ⟨w.heap.size, 0, none⟩), undef, .slice none 0 0, .pointer (some ⟨Bx, 0, none⟩), keysF bm, .agg #[.int .i64 x.1, .int .i64 x.2], undef, undef, undef, undef, undef], defers := [] })
    (fun x a' s X Y row hs hg hr => by obtain ⟨Bx, h1, h2, h3⟩ := hs; exact ⟨Bx, h1, block_own (β := Unit) _ Bx _ _ () X Y row h2 hg hr, h3⟩)
    ?assign ?body ?done ?stop)
  case assign =>
    rintro l pre ⟨f, t⟩ W K ⟨⟨v, bV, hrow, -⟩, hB⟩ hK
    gi_wp2
    exact hK _ _ ((KeepsOthers.alloc _ _).from _) (KeepsWalks.alloc _ _) ⟨⟨v, bV.alloc _, hrow.alloc _, trivial⟩, hB.alloc hB.size _⟩ ⟨W.heap.size, bV.lt, heap_alloc_new W _, rfl⟩
  case body =>
    rintro l pre ⟨f, t⟩ a' W hl ⟨r, hr⟩ ⟨⟨v, bV, hrow, -⟩, hB⟩ ⟨Bx, hBx, bX, rfl⟩ hlt
    have cV := bV.cell
    have x0 : W.cell? ⟨Bx, 0, none⟩ = some (.int .i64 f) := cell_of_row W Bx 0 _ _ _ bX
    have x1 : W.cell? ⟨Bx, 1, none⟩ = some (.int .i64 t) := cell_of_row W Bx 1 _ _ _ bX
    have hle : w.heap.size ≤ w.heap.size := Nat.le_refl _
    have hln : pre.length ≤ 100000 := by have := HN.out; omega
    gi_wp2_with (first
      | (gi_at_builtin; refine wpListIn_append_own _ rfl _ _ 48 rfl w.heap.size 41 i0 _ 2 16 Try.underlying48 hi hz0 hz1 hz2 rfl (by decide) _ _ _ rfl (hrow.alloc _) ⟨W.heap.size, 0, none⟩ 1 1 [.int .i64 f, .int .i64 t] rfl rfl (cell_two_new W (f, t)) (by simp [Value.oneCell']) (by unfold maxLen; omega) (by omega) (by have := hB.size; simp; omega) ?_
         intro v' w1 hown' hgrow _
         obtain ⟨g', cap', rfl⟩ := ownsRow_succ hown'
         obtain ⟨hv1, hv2, hr2, hk2, hb2⟩ := bV.appended (by decide) hrow hB.size hle hown' hgrow
         have hc1 := hv1.cell
         have hf1 := hv1.frozen)
      | gi_in)
    have e1 : (pre ++ [(f, t)]).length = pre.length + 1 := by simp
    have e2 : flatP (pre ++ [(f, t)]) = flatP pre ++ [.int .i64 f, .int .i64 t] := by rw [flatP_app]; rfl
    exact ⟨hk2.from _, hk2.walks, ⟨_, hv2, by rw [e1, e2]; exact hr2⟩, hB.trans hb2⟩
  case done =>
    rintro D' ys W hD hS ⟨⟨v, bV, hrow, -⟩, hB⟩ hK
    obtain ⟨q, d, rfl⟩ := OwnP.shape hrow
    have cV := bV.cell
    go_wp2_with fail
    refine ⟨by simp, .inl ⟨_, _, rfl, run_takeDeferred hK, ?_⟩⟩
    exact ⟨_, results_tmp rfl _ _ _, q, d, ys, rfl, hS, ownsRow_putObj hrow _ hK rfl, hB.trans (belowK_b (w := w) (Nat.le_refl _) W D' _ _ (by have := HS0.out; omega) hK rfl rfl)⟩
  case stop =>
    rintro D' c pre W _ _ h _
    exact h.elim

end Go.Proofs.Ytjcfbnhmljlkpaa
