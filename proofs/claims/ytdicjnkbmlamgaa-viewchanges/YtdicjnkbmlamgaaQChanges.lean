/- Whatever the beginning, the script and the packet: by what another one tells a slot goes just to one of a greater epoch, or to nobody, if its owner does not claim it any more (ViewChanges, its first form; no condition). -/
import Derived.BigFrame
import Derived.Test.YtdicjnkbmlamgaaM35
import Derived.Test.YtdicjnkbmlamgaaM39
import Derived.Test.YtdicjnkbmlamgaaM16
import Derived.Test.YtdicjnkbmlamgaaRows
import Derived.ProofKit
import Derived.OpenShut
import Derived.ShutString
import Derived.ChangeMaps5
import Derived.ChangeOld
import Derived.RowKit
import Derived.Deep.DeepHandedRow
import Derived.SizedLaws
import Derived.Test.YtdicjnkbmlamgaaM03
import Derived.Test.YtdicjnkbmlamgaaM38
namespace Go.Proofs.Ytdicjnkbmlamgaa
open Go.RowKit
open Slot

def placesO : Array (Nat × Nat) := #[(0, 1), (1, 1), (2, 1), (3, 1), (4, 261)]
theorem builtO_any (parts : List (Nat × Value)) : Try.prog.built 46 parts = Instr.fill (fun i => placesO[i]?) (#[.int .i64 0, .int .i64 0, .int .i64 0, .int .u64 0] ++ (#[.int .i64 0, .int .i64 0, .int .i64 0, .int .u64 0, .int .u64 0] ++ Array.replicate 256 (.int .u64 0))) parts := by kernel_rfl
theorem built_op (p : Pk) : Try.prog.built 46 [(4, .agg (pkCells p))] = some (opCells ⟨0, 0, 0, 0, p⟩) := by
  rw [builtO_any]
  obtain ⟨Z, hZ⟩ : ∃ Z : Array Value, #[.int .i64 0, .int .i64 0, .int .i64 0, .int .u64 0, .int .u64 0] ++ Array.replicate 256 (.int .u64 0) = Z := ⟨_, rfl⟩
  have hZs : Z.size = 261 := by rw [← hZ]; simp
  rw [hZ]
  have e : opCells ⟨0, 0, 0, 0, p⟩ = #[.int .i64 0, .int .i64 0, .int .i64 0, .int .u64 0] ++ pkCells p := rfl
  rw [e]
  have hs : (pkCells p).size = 261 := pkCells_size p
  generalize pkCells p = PC at hs ⊢
  clear hZ e
  have h1 : placesO[4]? = some (4, 261) := rfl
  have h4 : (#[.int .i64 0, .int .i64 0, .int .i64 0, .int .u64 0] : Array Value).size = 4 := rfl
  have hf := fill_row #[.int .i64 0, .int .i64 0, .int .i64 0, .int .u64 0] Z PC (hs.trans hZs.symm)
  rw [h4] at hf
  generalize (#[.int .i64 0, .int .i64 0, .int .i64 0, .int .u64 0] : Array Value) = A at h4 hf ⊢
  simp only [Instr.fill, h1, Value.cells, Array.size_append, hs, hZs, h4]
  rw [if_neg (by simp)]
  exact congrArg some hf
theorem wp_buildO {o : Oper} {a : Act} {w : World} {K : Act → World → Prop} {Q : Exit → Act → World → Prop} (x : Operand) (ho : o.op = .build 46 #[(4, x)]) (PC OC : Array Value) (hb : Try.prog.built 46 [(4, .agg PC)] = some OC) (hx : a.eval x = .agg PC)
    (h : K (a.put o.dst (.agg OC)) w) : o.wp Try.prog a w K Q := by
  have e : (#[(4, x)].map fun (i, x) => (i, a.eval x)).toList = [(4, .agg PC)] := by simp [hx]
  exact wp_build 46 _ ho (by rw [e, hb]; rfl) (by rw [e, hb]; exact h)
theorem infoOpt : (Try.prog.info? 46).map (fun i => (i.zero.isSome, i.size)) = some (true, 265) := by kernel_rfl
theorem run_bsliceO (OC : Array Value) (hs : OC.size = 265) (w : World) : (Instr.buildSlice 27 1 #[(0, .agg OC)]).run Try.prog w = .ok (.slice (some ⟨w.heap.size, 0, none⟩) 1 1) (w.alloc (.cells OC 46)) := by
  have hi := infoOpt
  cases hi0 : Try.prog.info? 46 with
  | none => rw [hi0] at hi; cases hi
  | some i0 =>
    rw [hi0] at hi
    simp only [Option.map_some, Option.some.injEq, Prod.mk.injEq] at hi
    obtain ⟨hz0, hz1⟩ := hi
    obtain ⟨z, hz⟩ := Option.isSome_iff_exists.1 hz0
    refine run_buildSlice w 27 46 1 _ OC i0 z Try.underlying27 hi0 hz (by rw [hz1]; decide) (by rw [hz1]; decide) ?_
    rw [hz1]
    generalize hB : (Array.range (1 * 265)).map (z.cells[· % z.cells.size]!) = B
    have hBs : B.size = 265 := by rw [← hB]; simp
    show Instr.fill (fun i => some (i * 265, 265)) B [(0, .agg OC)] = some OC
    simp only [Instr.fill, Value.cells, hs, hBs]
    rw [if_neg (by simp)]
    refine congrArg some ?_
    have := fill_row #[] B OC (by rw [hs, hBs])
    simpa using this
theorem wp_bsliceO {o : Oper} {a : Act} {w : World} {K : Act → World → Prop} {Q : Exit → Act → World → Prop} (x : Operand) (ho : o.op = .buildSlice 27 1 #[(0, x)]) (OC : Array Value) (hx : a.eval x = .agg OC) (hs : OC.size = 265)
    (h : K (a.put o.dst (.slice (some ⟨w.heap.size, 0, none⟩) 1 1)) (w.alloc (.cells OC 46))) : o.wp Try.prog a w K Q := by
  unfold Oper.wp execOp
  simp only [ho, List.map_toArray, List.map_cons, List.map_nil, hx, Sem.run_bind, run_bsliceO OC hs w, Result.andThen_ok]
  exact h
/-- few of one packet -/
theorem few_one (p : Pk) (w : World) : Try.prog.built 46 [(4, .agg (pkCells p))] = some (opCells ⟨0, 0, 0, 0, p⟩) ∧ (opCells ⟨0, 0, 0, 0, p⟩).size = 265 ∧
    Calls Try.prog 19 #[.slice (some ⟨w.heap.size, 0, none⟩) 1 1] (w.alloc (.cells (opCells ⟨0, 0, 0, 0, p⟩) 46)) (FewP 1 (w.alloc (.cells (opCells ⟨0, 0, 0, 0, p⟩) 46))) := by
  refine ⟨built_op p, opCells_size _, few_any _ [⟨0, 0, 0, 0, p⟩] 1 1 _ rfl (fun _ => ⟨w.heap.size, 0, rfl, by simp, fun j hj => ?_⟩) (by decide)⟩
  obtain rfl : j = 0 := by simpa using hj
  exact (fun i v hv => by
    rw [cell_of_row _ _ _ _ _ _ (heap_alloc_new w (.cells (opCells ⟨0, 0, 0, 0, p⟩) 46))]
    rw [Array.getElem?_toList] at hv
    simpa using hv)

end Go.Proofs.Ytdicjnkbmlamgaa

namespace Go.Proofs.Ytdicjnkbmlamgaa
open Go.RowKit Go.Shelf
open Slot

/-- changes, on its way -/
structure Ch (w wr : World) (b rs g cap pb : Nat) (v u : Vw) (p : Pk) : Prop where
  vb : VB wr b u
  rv : RVb wr rs v.self g cap v.cur
  nd : Nd wr g v.ep v.cl
  pk : PBox wr pb p
  bel : Below w.heap.size w wr
theorem Ch.call {w wr w' : World} {b rs g cap pb : Nat} {v u : Vw} {p : Pk} (h : Ch w wr b rs g cap pb v u p) (hb : Below wr.heap.size wr w') : Ch w w' b rs g cap pb v u p :=
  ⟨h.vb.below hb h.vb.lt, h.rv.below hb h.rv.lt, h.nd.below hb h.nd.lt, h.pk.below hb h.pk.lt, h.bel.trans (hb.mono h.bel.size)⟩
theorem Ch.drew {w wr : World} {b rs g cap pb : Nat} {v u : Vw} {p : Pk} (h : Ch w wr b rs g cap pb v u p) : Ch w wr.drew b rs g cap pb v u p :=
  ⟨h.vb.turn rfl, h.rv, h.nd.turn rfl, h.pk, h.bel.drew⟩
/-- what region 15 reads -/
def S15 (rs g cap pb k y : Nat) (CX : Array Value) (W : World) : Prop := W.cell? ⟨rs, 1, none⟩ = some (.slice (some ⟨g, 0, none⟩) 64 cap) ∧ W.cell? ⟨g, k * 257, none⟩ = some (.int .u64 (y : Int)) ∧ W.rangeAt pb 5 CX.toList
theorem Ch.s15 {w W : World} {b rs g cap pb k y : Nat} {v u : Vw} {p : Pk} {CX : Array Value} (h : Ch w W b rs g cap pb v u p) (hk : k < 64) (hy : v.ep k = y) (hC : cellsOf p.cl = CX) : S15 rs g cap pb k y CX W := by
  subst hy hC
  exact ⟨(rv_cells h.rv).2.1, h.nd.ep hk, h.pk.range⟩
theorem pk_vb_ne {w : World} {c b : Nat} {p : Pk} {v : Vw} (h : PBox w c p) (k : VB w b v) : c ≠ b := fun e => by
  obtain ⟨D, k1, _⟩ := k
  unfold PBox at h
  rw [e, k1] at h
  injection h with h2
  injection h2 with _ h3
  cases h3
theorem Ch.take {w wr w' : World} {b rs g cap pb : Nat} {v u : Vw} {p : Pk} (h : Ch w wr b rs g cap pb v v p) (hv : VB w' b u) (ho : Only b wr w') (hb : w.heap.size ≤ b) : Ch w w' b rs g cap pb v u p :=
  ⟨hv, (ho.block _ h.rv.lt (row_vb_ne h.rv h.vb)).trans h.rv, h.nd.turn (ho.block _ h.nd.lt (nd_vb_ne h.nd h.vb)), (ho.block _ h.pk.lt (pk_vb_ne h.pk h.vb)).trans h.pk, h.bel.trans (ho.below hb h.bel.size)⟩
theorem upto_get {S : Nat → Bool} {j : Nat} (h : j < (upto S 16384).length) : ∃ s, (upto S 16384)[j] = s ∧ s < 16384 ∧ S s = true := by
  refine ⟨_, rfl, ?_⟩
  have := List.getElem_mem h
  unfold upto at this
  rw [List.mem_filter, List.mem_range] at this
  exact this
/-- what becomes of a slot that node k has: nobody has it, k has it, or another one has it -/
theorem ch_case {v : Vw} {p : Pk} {k s : Nat} (hO : v.Ok 1000000) (hk : k < 64) (hs : s < 16384) (h : v.cl k s = true) :
    (ownI (takeV v p) (s : Int) = -1 ∧ (k : Int) = clI p ∧ p.cl s = false) ∨ ownI (takeV v p) (s : Int) = (k : Int) ∨ ∃ ob : Nat, ownI (takeV v p) (s : Int) = (ob : Int) ∧ ob < 64 ∧ ob ≠ k ∧ v.ep k < (takeV v p).ep ob := by
  have hv : v.own s = k := by
    unfold Vw.cl at h
    exact beq_iff_eq.1 h
  have hc := take_changes (v := v) (p := p) s (by omega)
  rw [hv] at hc
  have h64 := (take_ok (p := p) hO).own s
  rw [ownI_in _ hs]
  by_cases h1 : (takeV v p).own s = 64
  · obtain ⟨e1, e2⟩ := hc.1 h1
    refine .inl ⟨by rw [h1]; rfl, ?_, e2⟩
    have hse : seen v p = true := by
      cases hse : seen v p
      · have : takeV v p = v := by unfold takeV; rw [hse]; rfl
        rw [this] at h1
        omega
      · rfl
    rw [cl_of (seen_right hse).1, e1]
  · have e : ownZ ((takeV v p).own s) = ((takeV v p).own s : Int) := by unfold ownZ; rw [if_pos (by omega)]
    by_cases h2 : (takeV v p).own s = k
    · exact .inr (.inl (by rw [e, h2]))
    · exact .inr (.inr ⟨_, e, by omega, h2, hc.2 h1 h2⟩)
set_option maxHeartbeats 8000000 in
set_option maxRecDepth 100000 in
theorem changes_any (self : Int) (S : Nat → Bool) (e : Nat) (a : Option Addr) (L : List OpV) (n c : Nat) (p : Pk) (w : World) (hn : L.length = n) (hL : OpR w a L) (hm : n ≤ 9223372036854775807) :
    Calls Try.prog 6 #[.agg (bgC self S e), .slice a n c, .agg (pkCells p)] w fun e w' => e = .returned (.bool true) ∧ Below w.heap.size w w' := by
  have b1 := below_alloc w (.cells (bgC self S e) 26)
  have b2 := below_alloc (w.alloc (.cells (bgC self S e) 26)) (.cells (pkCells p) 44)
  have e1 : (w.alloc (.cells (bgC self S e) 26)).heap.size = w.heap.size + 1 := by simp
  have HW1 : Hid (Below w.heap.size w ((w.alloc (.cells (bgC self S e) 26)).alloc (.cells (pkCells p) 44))) := b1.trans (b2.mono (by omega))
  have HB1 : Hid (((w.alloc (.cells (bgC self S e) 26)).alloc (.cells (pkCells p) 44)).heap[w.heap.size]? = some (.cells (bgC self S e) 26 (0, 0))) := heap_alloc2_old w _ _
  have HP1 : Hid (PBox ((w.alloc (.cells (bgC self S e) 26)).alloc (.cells (pkCells p) 44)) (w.heap.size + 1) p) := heap_alloc2_new w _ _
  have iB := infoBg self S e
  have HBe := hid (begun_any self e n c S a L _ hn (hL.below HW1.out (Nat.le_refl _)) hm)
  have HAl := hid (fun W => alive_any W)
  have HTk := hid (fun b v W h k => ptake_any b v p W h k)
  have HPc := hid (fun W b (h : PBox W b p) => h.cells)
  have HHas0 : Hid (∀ (s : Nat) W, s < 16384 → Calls Try.prog 22 #[.agg (cellsOf p.cl), .int .i64 (s : Int)] W fun e w' => e = .returned (.bool (p.cl s)) ∧ Below W.heap.size W w') := fun s W h => by
    have := rHas_any p.cl (s : Int) W
    rwa [decide_eq_true (show (0 : Int) ≤ (s : Int) ∧ (s : Int) < 16384 by omega), Bool.true_and, Int.toNat_natCast] at this
  have HFo := hid (fun W => few_one p W)
  have iP : (Try.prog.info? 44).map (·.size) = some (pkCells p).size := infoPk p
  have iCX := infoBl (S := p.cl)
  obtain ⟨FR, hFR⟩ : ∃ x, clI p = x := ⟨_, rfl⟩
  obtain ⟨KD, hKD⟩ : ∃ x, p.kind = x := ⟨_, rfl⟩
  have hFRy : KD = 3 → p.of_ = FR := fun h => by rw [← hFR]; unfold clI; rw [if_pos (hKD.trans h)]
  have hFRn : KD ≠ 3 → p.frm = FR := fun h => by rw [← hFR]; unfold clI; rw [if_neg (by rw [hKD]; exact h)]
  have HFRy := hid hFRy
  have HFRn := hid hFRn
  have HKD := hid hKD
  obtain ⟨BC, hBC⟩ : ∃ C, bgC self S e = C := ⟨_, rfl⟩
  obtain ⟨PC, hPC⟩ : ∃ C, pkCells p = C := ⟨_, rfl⟩
  obtain ⟨CX, hCX⟩ : ∃ C, cellsOf p.cl = C := ⟨_, rfl⟩
  have HPk : Hid (∀ W c, PBox W c p → W.heap[c]? = some (.cells PC 44 (0, 0))) := fun W c h => by rw [← hPC]; exact h
  have HCX := hid hCX
  have HFRc := hid hFR
  rw [hPC] at HW1 HB1 HP1 HBe HTk HFo iP ⊢
  rw [hBC] at HW1 HB1 HP1 HBe iB ⊢
  rw [hCX] at HHas0 iCX
  clear hBC hPC hCX hn hL hm b1 b2 e1 hFRy hFRn hKD hFR
  go_enter Try.func6, Try.ntmps6
  go_upto_region 1 with fail
  generalize (w.alloc (.cells BC 26)).alloc (.cells PC 44) = w1 at *
  obtain ⟨pb, hpb⟩ : ∃ x, w.heap.size + 1 = x := ⟨_, rfl⟩
  rw [hpb] at HP1 ⊢
  clear hpb
  go_wp2_with (refine wpList_load_row rfl 26 _ rfl w.heap.size rfl 26 _ (0, 0) _ HB1.out Try.underlying26 rfl iB ?_)
  refine HBe.out.mono ?_; rintro r w2 ⟨x, RC, rfl, hs, ho, hb, hx⟩
  have HW2 := hid (HW1.out.trans (hb.mono HW1.out.size))
  have HP2 := hid (HP1.out.below hb HP1.out.lt)
  obtain ⟨b3, h3, hz, iR, hb3⟩ := put_row HW2.out hs
  have HW3 := hid b3
  have HR3 := hid h3
  have HP3 := hid (HP2.out.below hb3 HP2.out.lt)
  have HB3 := hid hb3
  have HX := hid hx
  have HO := hid ho
  have HZ := hid (heap_alloc_new w2 (.cells #[.int .i64 0, .slice none 0 0, .int .u64 0] 31))
  clear hb b3 h3 hb3 hx ho hs HBe HB1 HP2 HP1
  go_upto_region 2 with (refine wpList_store_row rfl 31 _ _ rfl w2.heap.size RC rfl rfl 31 _ HZ.out iR hz HO.out ?_)
  clear HZ
  generalize (w2.alloc (.cells #[.int .i64 0, .slice none 0 0, .int .u64 0] 31)).setRow w2.heap.size RC = w3 at *
  obtain ⟨rs, hrs⟩ : ∃ x, w2.heap.size = x := ⟨_, rfl⟩
  rw [hrs] at HB3 HR3 ⊢
  rcases HX.out with rfl | ⟨b, v, g, cap, rfl, hRC, hV, hN, hOk, hbw⟩
  · go_wp2_with fail
    refine (HAl.out _).mono ?_; rintro r w4 ⟨rfl, hb4⟩
    have HW4 := hid (HW3.out.trans (hb4.mono HW3.out.size))
    clear hb4
    go_wp2_with fail
    go_ret
    exact ⟨rfl, HW4.out⟩
  · have HC3 : Hid (Ch w w3 b rs g cap pb v v p) := ⟨hV.below HB3.out (by have := hV.lt; omega), by rw [hRC] at HR3; exact HR3.out, hN.below HB3.out (by have := hN.lt; omega), HP3.out, HW3.out⟩
    have HOk : Hid (v.Ok 1000000) := hOk.mono (by decide)
    have HBw : Hid (w.heap.size ≤ b) := by have := HW1.out.size; show _ ≤ _; omega
    have HPr3 := hid (HPk.out _ _ HP3.out)
    clear hRC hV hN hOk hbw HX hrs HB3 HR3 HW2 HP3 HW3 hz iR HO
    obtain ⟨OC, hOC⟩ : ∃ C, opCells ⟨0, 0, 0, 0, p⟩ = C := ⟨_, rfl⟩
    rw [hOC] at HFo
    clear hOC
    go_wp2_with (first | (refine wpList_load_want rfl 44 _ rfl pb rfl 44 _ (0, 0) _ HPr3.out Try.underlying44 rfl iP ?_) | (refine BigFrame.wpList_want rfl (fun K hK => ?_); refine wp_buildO _ rfl PC OC (HFo.out w).1 rfl (hK _ _ ?_)) | (refine BigFrame.wpList_want rfl (fun K hK => ?_); refine wp_bsliceO _ rfl OC rfl (HFo.out w).2.1 (hK _ _ ?_)))
    refine (HFo.out _).2.2.mono ?_; rintro r w4 ⟨Bo, rfl, -, hb4⟩
    have HC4 := hid ((HC3.out.call (below_alloc w3 (.cells OC 46))).call hb4)
    clear hb4 HC3 HPr3 HFo
    cases Bo with
    | false =>
      go_wp2_with fail
      refine (HAl.out _).mono ?_; rintro r w5 ⟨rfl, hb5⟩
      have HW5 := hid (HC4.out.call hb5).bel
      clear hb5
      go_wp2_with fail
      go_ret
      exact ⟨rfl, HW5.out⟩
    | true =>
      have HPr4 := hid (HPk.out _ _ HC4.out.pk)
      have HTk4 := hid (HTk.out b v w4 HC4.out.vb HOk.out)
      have HCs := hid (fun (k s : Nat) (h1 : k < 64) (h2 : s < 16384) (h3 : v.cl k s = true) => ch_case (p := p) HOk.out h1 h2 h3)
      rw [HFRc.out] at HCs
      clear HTk HFRc
      go_wp2_with (refine wpList_load_row rfl 44 _ rfl pb rfl 44 _ (0, 0) _ HPr4.out Try.underlying44 rfl iP ?_)
      refine HTk4.out.mono ?_; rintro r w5 ⟨AA, rfl, -, hv, hon⟩
      have HC5 := hid (HC4.out.take hv hon HBw.out)
      obtain ⟨u, hu⟩ : ∃ u, takeV v p = u := ⟨_, rfl⟩
      rw [hu] at HC5 HCs
      clear hv hon hu HTk4 HPr4 HC4 iP HPk
      obtain ⟨-, rc1, -⟩ := rv_cells HC5.out.rv
      go_wp2_with fail
      clear rc1
      go_loopw [45] (fun c45 wr => ∃ k : Nat, c45 = .int .i64 (k : Int) ∧ k ≤ 64 ∧ Hid (Ch w wr b rs g cap pb v u p)) (fun i _ => 64 - (intOf i).toNat)
      case atStart => exact ⟨0, rfl, Nat.zero_le _, HC5.out⟩
      case round =>
        clear HC5
        obtain ⟨k, rfl, hk, HC⟩ := hrel
        by_cases hlt : k < 64
        · have hkz : (k : Int) < 64 := by omega
          obtain ⟨-, rc1, -⟩ := rv_cells HC.out.rv
          have HRg : Hid (wr.rangeAt g (k * 257 + 1) (cellsOf (v.cl k)).toList) := HC.out.nd.cl_range hlt
          have iCk := infoBl (S := v.cl k)
          have HAll := hid (fun W => rAll_any (v.cl k) W)
          obtain ⟨l, hl⟩ : ∃ l, upto (v.cl k) 16384 = l := ⟨_, rfl⟩
          have HGet : Hid (∀ (j : Nat) (h : j < l.length), ∃ s, l[j] = s ∧ s < 16384 ∧ v.cl k s = true) := by
            rw [← hl]
            exact fun j h => upto_get h
          obtain ⟨CK, hCK⟩ : ∃ C, cellsOf (v.cl k) = C := ⟨_, rfl⟩
          have HLn : Hid (l.length ≤ 16384) := by rw [← hl]; exact upto_len _ _
          have HCs2 := hid (fun (s : Nat) => HCs.out k s hlt)
          have HKl := hid hlt
          obtain ⟨y, hy⟩ : ∃ y, v.ep k = y := ⟨_, rfl⟩
          have HS15 := hid (fun W (h : Ch w W b rs g cap pb v u p) => h.s15 hlt hy HCX.out)
          simp only [hl] at HAll
          rw [hCK] at HAll HRg iCk
          rw [hy] at HCs2
          clear hl hCK hy
          go_wp2_with (refine wpList_load_mid rfl 24 _ rfl g (k * 257 + 1) rfl _ _ HRg.out Try.underlying24 rfl iCk ?_; rw [Array.toArray_toList])
          refine (HAll.out _).mono ?_; rintro r w6 ⟨⟨vl, rfl, ho6⟩, hb6⟩
          obtain ⟨al, cl, rfl⟩ := owns_slice ho6
          have HC6 := hid (HC.out.call hb6)
          have HA6 := hid ho6
          obtain ⟨Bq, hBq⟩ : ∃ x, wr.heap.size + 1 = x := ⟨_, rfl⟩
          rw [hBq] at HA6
          obtain ⟨N, hN⟩ : ∃ x, l.length = x := ⟨_, rfl⟩
          have HNl := hid hN
          rw [hN] at HA6 ⊢
          have hNz : (N : Int) ≤ 16384 := by have := HLn.out; omega
          clear ho6 hb6 hBq hN rc1 HRg iCk HAll HC HLn
          go_wp2_with fail
          go_loopw [56] (fun c56 wr => ∃ j : Nat, c56 = .int .i64 (j : Int) ∧ j ≤ N ∧ Hid (Ch w wr b rs g cap pb v u p) ∧ Hid (wr.ownsRow Bq 3 1 (.slice al N cl) N (nums l))) (fun i _ => N - (intOf i).toNat)
          case atStart => exact ⟨0, rfl, Nat.zero_le _, HC6.out, HA6.out⟩
          case round =>
            clear HC6 HA6
            obtain ⟨j, rfl, hj, HC, HAl2⟩ := hrel
            by_cases hjl : j < N
            · have hjz : (j : Int) < (N : Int) := by omega
              obtain ⟨s, hs1, hs2, hs3⟩ := HGet.out j (by have := HNl.out; omega)
              obtain ⟨gq, cq, hvq⟩ := owns_form HAl2.out (by omega)
              injection hvq with ea _ ec
              subst ea
              subst ec
              have cs : wr.cell? ⟨gq, j, none⟩ = some (.int .i64 (s : Int)) := by
                rw [World.ownsRow.cellAt HAl2.out _ (by omega)]
                unfold nums
                rw [List.getElem?_map, List.getElem?_eq_getElem (by have := HNl.out; omega), hs1]
                rfl
              have hcase := HCs2.out s hs2 hs3
              have HOw := hid (owner_any b u (s : Int) wr HC.out.vb)
              have HHas := hid (fun W => HHas0.out s W hs2)
              obtain ⟨OW, hOW⟩ : ∃ x, ownI u (s : Int) = x := ⟨_, rfl⟩
              rw [hOW] at hcase HOw
              have hcaseH := hid hcase
              obtain ⟨p0, p1, p2, p3, p4⟩ := HPc.out _ _ HC.out.pk
              rw [HKD.out] at p0
              clear hcase hOW hs1 hs2 hs3 p3 p4
              by_cases k3 : KD = 3
              · rw [HFRy.out k3] at p2
                subst k3
                go_wp2_with fail
                refine HOw.out.mono ?_; rintro r w7 ⟨rfl, rfl⟩
                go_upto_region 15 with fail
                have hcase := hcaseH.out
                clear p0 p1 p2 cs HOw hcaseH
                rcases hcase with ⟨how, hkf0, hpc⟩ | how | ⟨ob, how, hob, hne, hlt2⟩
                · obtain rfl : OW = -1 := how
                  have ho1 : (-1 : Int) < 0 := by omega
                  have hkf : ((k : Int) != FR) = false := by rw [hkf0]; simp
                  have HHs : Hid (∀ W, Calls Try.prog 22 #[.agg CX, .int .i64 (s : Int)] W fun e w' => e = .returned (.bool false) ∧ Below W.heap.size W w') := fun W => by
                    have := HHas.out W
                    rwa [hpc] at this
                  clear hkf0 hpc
                  have u24 := Try.underlying24
                  refine wp_region_held_drew (S := S15 rs g cap pb k y CX) (by kernel_rfl) (HS15.out _ HC.out.drew) (fun hHeld => ?_)
                  refine wpAnyH_take (i := 0) (oi := { dst := some 70, op := Op.move (Operand.tmp 13), type := 3, pos := "law.go:140", after := #[], guard := none }) (v := .int .i64 (-1)) rfl (by kernel_rfl) (by kernel_rfl) (by kernel_rfl) (fun _ _ _ h => h) (Or.inl ⟨by rfl, fun wS hSw => ?_⟩) (by assumption) ?_
                  · clear hHeld
                    clear hSw
                    go_simp
                  try simp only [Act.put, List.setIfInBounds_toArray, List.set_cons_zero, List.set_cons_succ]
                  refine wpAnyH_take (i := 1) (oi := { dst := some 71, op := Op.binOp BinOp.lss 3 (Operand.tmp 70) (Operand.const (Value.int IntKind.i64 0)) 3, type := 4, pos := "law.go:140", after := #[{ on := 0, ground := Ground.data }], guard := none }) (v := .bool true) rfl (by kernel_rfl) (by kernel_rfl) (by kernel_rfl) (fun _ _ _ h => h) (Or.inl ⟨by rfl, fun wS hSw => ?_⟩) (by assumption) ?_
                  · clear hHeld
                    have hoo := ho1
                    clear hSw
                    go_simp
                  try simp only [Act.put, List.setIfInBounds_toArray, List.set_cons_zero, List.set_cons_succ]
                  refine wpAnyH_take (i := 2) (oi := { dst := some 72, op := Op.move (Operand.tmp 71), type := 4, pos := "law.go:140", after := #[{ on := 1, ground := Ground.data }], guard := none }) (v := .bool true) rfl (by kernel_rfl) (by kernel_rfl) (by kernel_rfl) (fun _ _ _ h => h) (Or.inl ⟨by rfl, fun wS hSw => ?_⟩) (by assumption) ?_
                  · clear hHeld
                    clear hSw
                    go_simp
                  try simp only [Act.put, List.setIfInBounds_toArray, List.set_cons_zero, List.set_cons_succ]
                  refine wpAnyH_take (i := 3) (oi := { dst := some 73, op := Op.move (Operand.tmp 10), type := 3, pos := "law.go:140", after := #[{ on := 2, ground := Ground.guard }], guard := some (2, true) }) (v := .int .i64 (k : Int)) rfl (by kernel_rfl) (by kernel_rfl) (by kernel_rfl) (fun _ _ _ h => h) (Or.inl ⟨by rfl, fun wS hSw => ?_⟩) (by assumption) ?_
                  · clear hHeld
                    clear hSw
                    go_simp
                  try simp only [Act.put, List.setIfInBounds_toArray, List.set_cons_zero, List.set_cons_succ]
                  refine wpAnyH_take (i := 4) (oi := { dst := some 74, op := Op.move (Operand.tmp 14), type := 3, pos := "law.go:140", after := #[{ on := 2, ground := Ground.guard }], guard := some (2, true) }) (v := .int .i64 FR) rfl (by kernel_rfl) (by kernel_rfl) (by kernel_rfl) (fun _ _ _ h => h) (Or.inl ⟨by rfl, fun wS hSw => ?_⟩) (by assumption) ?_
                  · clear hHeld
                    clear hSw
                    go_simp
                  try simp only [Act.put, List.setIfInBounds_toArray, List.set_cons_zero, List.set_cons_succ]
                  refine wpAnyH_take (i := 5) (oi := { dst := some 75, op := Op.binOp BinOp.neq 3 (Operand.tmp 73) (Operand.tmp 74) 3, type := 4, pos := "law.go:140", after := #[{ on := 3, ground := Ground.data }, { on := 4, ground := Ground.data }, { on := 2, ground := Ground.guard }], guard := some (2, true) }) (v := .bool false) rfl (by kernel_rfl) (by kernel_rfl) (by kernel_rfl) (fun _ _ _ h => h) (Or.inl ⟨by rfl, fun wS hSw => ?_⟩) (by assumption) ?_
                  · clear hHeld
                    have hff := hkf
                    clear hSw
                    go_simp
                  try simp only [Act.put, List.setIfInBounds_toArray, List.set_cons_zero, List.set_cons_succ]
                  refine wpAnyH_take (i := 6) (oi := { dst := some 76, op := Op.move (Operand.tmp 75), type := 4, pos := "law.go:140", after := #[{ on := 5, ground := Ground.data }, { on := 2, ground := Ground.chain }, { on := 2, ground := Ground.guard }], guard := some (2, true) }) (v := .bool false) rfl (by kernel_rfl) (by kernel_rfl) (by kernel_rfl) (fun _ _ _ h => h) (Or.inl ⟨by rfl, fun wS hSw => ?_⟩) (by assumption) ?_
                  · clear hHeld
                    clear hSw
                    go_simp
                  try simp only [Act.put, List.setIfInBounds_toArray, List.set_cons_zero, List.set_cons_succ]
                  refine wpAnyH_take (i := 7) (oi := { dst := some 77, op := Op.fieldAddr 44 (Operand.tmp 5) 5, type := 0, pos := "law.go:140", after := #[{ on := 6, ground := Ground.guard }], guard := some (6, false) }) (v := .pointer (some ⟨pb, 5, none⟩)) rfl (by kernel_rfl) (by kernel_rfl) (by kernel_rfl) (fun _ _ _ h => h) (Or.inl ⟨by rfl, fun wS hSw => ?_⟩) (by assumption) ?_
                  · clear hHeld
                    clear hSw
                    go_simp
                  try simp only [Act.put, List.setIfInBounds_toArray, List.set_cons_zero, List.set_cons_succ]
                  refine wpAnyH_take (i := 8) (oi := { dst := some 78, op := Op.load 24 (Operand.tmp 77), type := 24, pos := "law.go:140", after := #[{ on := 7, ground := Ground.data }, { on := 6, ground := Ground.guard }], guard := some (6, false) }) (v := .agg CX) rfl (by kernel_rfl) (by kernel_rfl) (by kernel_rfl) (fun _ _ _ h => h) (yieldsIf_load_arr Array.toArray_toList (by rfl) _ _ rfl _ _ rfl (fun _ h => h.2.2) u24 rfl iCX) (by assumption) ?_
                  try simp only [Act.put, List.setIfInBounds_toArray, List.set_cons_zero, List.set_cons_succ]
                  refine wpAnyH_take (i := 9) (oi := { dst := some 79, op := Op.move (Operand.tmp 12), type := 3, pos := "law.go:140", after := #[{ on := 6, ground := Ground.guard }], guard := some (6, false) }) (v := .int .i64 (s : Int)) rfl (by kernel_rfl) (by kernel_rfl) (by kernel_rfl) (fun _ _ _ h => h) (Or.inl ⟨by rfl, fun wS hSw => ?_⟩) (by assumption) ?_
                  · clear hHeld
                    clear hSw
                    go_simp
                  try simp only [Act.put, List.setIfInBounds_toArray, List.set_cons_zero, List.set_cons_succ]
                  refine wpAnyH_ready (rs := [10]) (by kernel_rfl) (by simp) ?_
                  refine AllReadyH.cons (o := { dst := some 80, op := Op.call { callee := Callee.value (Operand.func 22), args := #[Operand.tmp 78, Operand.tmp 79], argTypes := #[24, 3] }, type := 4, pos := "law.go:140", after := #[{ on := 8, ground := Ground.data }, { on := 9, ground := Ground.data }, { on := 6, ground := Ground.chain }, { on := 6, ground := Ground.guard }], guard := some (6, false) }) rfl (fun K hK => ?_) AllReadyH.nil
                  clear hHeld
                  go_simp
                  refine (HHs.out _).mono ?_; rintro e w8 ⟨rfl, hb8⟩
                  have HC8 := hid (HC.out.drew.call hb8)
                  have HA8 := hid (owns_below (show w7.drew.ownsRow Bq 3 1 (.slice (some ⟨gq, 0, none⟩) N cl) N (nums l) from HAl2.out) hb8)
                  clear hb8
                  go_wp2_with fail
                  refine hK.out _ _ (HS15.out _ HC8.out) (fun hHeld => ?_)
                  clear hK K
                  try simp only [Act.put, List.setIfInBounds_toArray, List.set_cons_zero, List.set_cons_succ]
                  refine wpAnyH_take (i := 11) (oi := { dst := some 81, op := Op.pick (Operand.tmp 76) (Operand.const (Value.bool true)) (Operand.tmp 80), type := 4, pos := "law.go:140", after := #[{ on := 6, ground := Ground.data }, { on := 10, ground := Ground.data }, { on := 2, ground := Ground.guard }], guard := some (2, true) }) (v := .bool false) rfl (by kernel_rfl) (by kernel_rfl) (by kernel_rfl) (fun _ _ _ h => h) (Or.inl ⟨by rfl, fun wS hSw => ?_⟩) (by assumption) ?_
                  · clear hHeld
                    clear hSw
                    go_simp
                  try simp only [Act.put, List.setIfInBounds_toArray, List.set_cons_zero, List.set_cons_succ]
                  refine wpAnyH_take (i := 12) (oi := { dst := some 82, op := Op.pick (Operand.tmp 72) (Operand.tmp 81) (Operand.const (Value.bool false)), type := 4, pos := "law.go:140", after := #[{ on := 2, ground := Ground.data }, { on := 11, ground := Ground.data }], guard := none }) (v := .bool false) rfl (by kernel_rfl) (by kernel_rfl) (by kernel_rfl) (fun _ _ _ h => h) (Or.inl ⟨by rfl, fun wS hSw => ?_⟩) (by assumption) ?_
                  · clear hHeld
                    clear hSw
                    go_simp
                  try simp only [Act.put, List.setIfInBounds_toArray, List.set_cons_zero, List.set_cons_succ]
                  refine wpAnyH_take (i := 13) (oi := { dst := some 83, op := Op.move (Operand.tmp 82), type := 4, pos := "law.go:140", after := #[{ on := 12, ground := Ground.data }, { on := 10, ground := Ground.chain }], guard := none }) (v := .bool false) rfl (by kernel_rfl) (by kernel_rfl) (by kernel_rfl) (fun _ _ _ h => h) (Or.inl ⟨by rfl, fun wS hSw => ?_⟩) (by assumption) ?_
                  · clear hHeld
                    clear hSw
                    go_simp
                  try simp only [Act.put, List.setIfInBounds_toArray, List.set_cons_zero, List.set_cons_succ]
                  refine wpAnyH_take (i := 14) (oi := { dst := some 84, op := Op.move (Operand.tmp 13), type := 3, pos := "law.go:140", after := #[{ on := 13, ground := Ground.guard }], guard := some (13, false) }) (v := .int .i64 (-1)) rfl (by kernel_rfl) (by kernel_rfl) (by kernel_rfl) (fun _ _ _ h => h) (Or.inl ⟨by rfl, fun wS hSw => ?_⟩) (by assumption) ?_
                  · clear hHeld
                    clear hSw
                    go_simp
                  try simp only [Act.put, List.setIfInBounds_toArray, List.set_cons_zero, List.set_cons_succ]
                  refine wpAnyH_take (i := 15) (oi := { dst := some 85, op := Op.binOp BinOp.geq 3 (Operand.tmp 84) (Operand.const (Value.int IntKind.i64 0)) 3, type := 4, pos := "law.go:140", after := #[{ on := 14, ground := Ground.data }, { on := 13, ground := Ground.guard }], guard := some (13, false) }) (v := .bool false) rfl (by kernel_rfl) (by kernel_rfl) (by kernel_rfl) (fun _ _ _ h => h) (Or.inl ⟨by rfl, fun wS hSw => ?_⟩) (by assumption) ?_
                  · clear hHeld
                    have hoo := ho1
                    clear hSw
                    go_simp
                  try simp only [Act.put, List.setIfInBounds_toArray, List.set_cons_zero, List.set_cons_succ]
                  refine wpAnyH_take (i := 16) (oi := { dst := some 86, op := Op.move (Operand.tmp 85), type := 4, pos := "law.go:140", after := #[{ on := 15, ground := Ground.data }, { on := 13, ground := Ground.chain }, { on := 13, ground := Ground.guard }], guard := some (13, false) }) (v := .bool false) rfl (by kernel_rfl) (by kernel_rfl) (by kernel_rfl) (fun _ _ _ h => h) (Or.inl ⟨by rfl, fun wS hSw => ?_⟩) (by assumption) ?_
                  · clear hHeld
                    clear hSw
                    go_simp
                  try simp only [Act.put, List.setIfInBounds_toArray, List.set_cons_zero, List.set_cons_succ]
                  refine wpAnyH_take (i := 17) (oi := { dst := some 87, op := Op.move (Operand.tmp 13), type := 3, pos := "law.go:140", after := #[{ on := 16, ground := Ground.guard }], guard := some (16, true) }) (v := undef) rfl (by kernel_rfl) (by kernel_rfl) (by kernel_rfl) (fun _ _ _ h => h) (Or.inr ⟨by rfl, rfl⟩) (by assumption) ?_
                  try simp only [Act.put, List.setIfInBounds_toArray, List.set_cons_zero, List.set_cons_succ]
                  refine wpAnyH_take (i := 18) (oi := { dst := some 88, op := Op.move (Operand.tmp 10), type := 3, pos := "law.go:140", after := #[{ on := 16, ground := Ground.guard }], guard := some (16, true) }) (v := undef) rfl (by kernel_rfl) (by kernel_rfl) (by kernel_rfl) (fun _ _ _ h => h) (Or.inr ⟨by rfl, rfl⟩) (by assumption) ?_
                  try simp only [Act.put, List.setIfInBounds_toArray, List.set_cons_zero, List.set_cons_succ]
                  refine wpAnyH_take (i := 19) (oi := { dst := some 89, op := Op.binOp BinOp.neq 3 (Operand.tmp 87) (Operand.tmp 88) 3, type := 4, pos := "law.go:140", after := #[{ on := 17, ground := Ground.data }, { on := 18, ground := Ground.data }, { on := 16, ground := Ground.guard }], guard := some (16, true) }) (v := undef) rfl (by kernel_rfl) (by kernel_rfl) (by kernel_rfl) (fun _ _ _ h => h) (Or.inr ⟨by rfl, rfl⟩) (by assumption) ?_
                  try simp only [Act.put, List.setIfInBounds_toArray, List.set_cons_zero, List.set_cons_succ]
                  refine wpAnyH_take (i := 20) (oi := { dst := some 90, op := Op.pick (Operand.tmp 86) (Operand.tmp 89) (Operand.const (Value.bool false)), type := 4, pos := "law.go:140", after := #[{ on := 16, ground := Ground.data }, { on := 19, ground := Ground.data }, { on := 13, ground := Ground.guard }], guard := some (13, false) }) (v := .bool false) rfl (by kernel_rfl) (by kernel_rfl) (by kernel_rfl) (fun _ _ _ h => h) (Or.inl ⟨by rfl, fun wS hSw => ?_⟩) (by assumption) ?_
                  · clear hHeld
                    clear hSw
                    go_simp
                  try simp only [Act.put, List.setIfInBounds_toArray, List.set_cons_zero, List.set_cons_succ]
                  refine wpAnyH_take (i := 21) (oi := { dst := some 91, op := Op.move (Operand.tmp 90), type := 4, pos := "law.go:140", after := #[{ on := 20, ground := Ground.data }, { on := 16, ground := Ground.chain }, { on := 13, ground := Ground.guard }], guard := some (13, false) }) (v := .bool false) rfl (by kernel_rfl) (by kernel_rfl) (by kernel_rfl) (fun _ _ _ h => h) (Or.inl ⟨by rfl, fun wS hSw => ?_⟩) (by assumption) ?_
                  · clear hHeld
                    clear hSw
                    go_simp
                  try simp only [Act.put, List.setIfInBounds_toArray, List.set_cons_zero, List.set_cons_succ]
                  refine wpAnyH_take (i := 22) (oi := { dst := some 92, op := Op.move (Operand.tmp 7), type := 28, pos := "law.go:140", after := #[{ on := 21, ground := Ground.guard }], guard := some (21, true) }) (v := undef) rfl (by kernel_rfl) (by kernel_rfl) (by kernel_rfl) (fun _ _ _ h => h) (Or.inr ⟨by rfl, rfl⟩) (by assumption) ?_
                  try simp only [Act.put, List.setIfInBounds_toArray, List.set_cons_zero, List.set_cons_succ]
                  refine wpAnyH_take (i := 23) (oi := { dst := some 93, op := Op.move (Operand.tmp 13), type := 3, pos := "law.go:140", after := #[{ on := 21, ground := Ground.guard }], guard := some (21, true) }) (v := undef) rfl (by kernel_rfl) (by kernel_rfl) (by kernel_rfl) (fun _ _ _ h => h) (Or.inr ⟨by rfl, rfl⟩) (by assumption) ?_
                  try simp only [Act.put, List.setIfInBounds_toArray, List.set_cons_zero, List.set_cons_succ]
                  refine wpAnyH_take (i := 24) (oi := { dst := some 94, op := Op.call { callee := Callee.value (Operand.func 18), args := #[Operand.tmp 92, Operand.tmp 93], argTypes := #[28, 3] }, type := 22, pos := "law.go:140", after := #[{ on := 22, ground := Ground.data }, { on := 23, ground := Ground.data }, { on := 21, ground := Ground.chain }, { on := 21, ground := Ground.guard }], guard := some (21, true) }) (v := undef) rfl (by kernel_rfl) (by kernel_rfl) (by kernel_rfl) (fun _ _ _ h => h) (Or.inr ⟨by rfl, rfl⟩) (by assumption) ?_
                  try simp only [Act.put, List.setIfInBounds_toArray, List.set_cons_zero, List.set_cons_succ]
                  refine wpAnyH_take (i := 25) (oi := { dst := some 95, op := Op.fieldAddr 31 (Operand.tmp 8) 1, type := 0, pos := "law.go:140", after := #[{ on := 21, ground := Ground.guard }], guard := some (21, true) }) (v := undef) rfl (by kernel_rfl) (by kernel_rfl) (by kernel_rfl) (fun _ _ _ h => h) (Or.inr ⟨by rfl, rfl⟩) (by assumption) ?_
                  try simp only [Act.put, List.setIfInBounds_toArray, List.set_cons_zero, List.set_cons_succ]
                  refine wpAnyH_take (i := 26) (oi := { dst := some 96, op := Op.load 29 (Operand.tmp 95), type := 29, pos := "law.go:140", after := #[{ on := 25, ground := Ground.data }, { on := 21, ground := Ground.guard }], guard := some (21, true) }) (v := undef) rfl (by kernel_rfl) (by kernel_rfl) (by kernel_rfl) (fun _ _ _ h => h) (Or.inr ⟨by rfl, rfl⟩) (by assumption) ?_
                  try simp only [Act.put, List.setIfInBounds_toArray, List.set_cons_zero, List.set_cons_succ]
                  refine wpAnyH_take (i := 27) (oi := { dst := some 97, op := Op.move (Operand.tmp 10), type := 3, pos := "law.go:140", after := #[{ on := 21, ground := Ground.guard }], guard := some (21, true) }) (v := undef) rfl (by kernel_rfl) (by kernel_rfl) (by kernel_rfl) (fun _ _ _ h => h) (Or.inr ⟨by rfl, rfl⟩) (by assumption) ?_
                  try simp only [Act.put, List.setIfInBounds_toArray, List.set_cons_zero, List.set_cons_succ]
                  refine wpAnyH_take (i := 28) (oi := { dst := some 98, op := Op.indexAddr 29 (Operand.tmp 96) (Operand.tmp 97), type := 0, pos := "law.go:140", after := #[{ on := 26, ground := Ground.data }, { on := 27, ground := Ground.data }, { on := 21, ground := Ground.guard }], guard := some (21, true) }) (v := undef) rfl (by kernel_rfl) (by kernel_rfl) (by kernel_rfl) (fun _ _ _ h => h) (Or.inr ⟨by rfl, rfl⟩) (by assumption) ?_
                  try simp only [Act.put, List.setIfInBounds_toArray, List.set_cons_zero, List.set_cons_succ]
                  refine wpAnyH_take (i := 29) (oi := { dst := some 99, op := Op.fieldAddr 58 (Operand.tmp 98) 0, type := 0, pos := "law.go:140", after := #[{ on := 28, ground := Ground.data }, { on := 21, ground := Ground.guard }], guard := some (21, true) }) (v := undef) rfl (by kernel_rfl) (by kernel_rfl) (by kernel_rfl) (fun _ _ _ h => h) (Or.inr ⟨by rfl, rfl⟩) (by assumption) ?_
                  try simp only [Act.put, List.setIfInBounds_toArray, List.set_cons_zero, List.set_cons_succ]
                  refine wpAnyH_take (i := 30) (oi := { dst := some 100, op := Op.load 22 (Operand.tmp 99), type := 22, pos := "law.go:140", after := #[{ on := 29, ground := Ground.data }, { on := 21, ground := Ground.guard }], guard := some (21, true) }) (v := undef) rfl (by kernel_rfl) (by kernel_rfl) (by kernel_rfl) (fun _ _ _ h => h) (Or.inr ⟨by rfl, rfl⟩) (by assumption) ?_
                  try simp only [Act.put, List.setIfInBounds_toArray, List.set_cons_zero, List.set_cons_succ]
                  refine wpAnyH_take (i := 31) (oi := { dst := some 101, op := Op.binOp BinOp.leq 22 (Operand.tmp 94) (Operand.tmp 100) 22, type := 4, pos := "law.go:140", after := #[{ on := 24, ground := Ground.data }, { on := 30, ground := Ground.data }, { on := 21, ground := Ground.guard }], guard := some (21, true) }) (v := undef) rfl (by kernel_rfl) (by kernel_rfl) (by kernel_rfl) (fun _ _ _ h => h) (Or.inr ⟨by rfl, rfl⟩) (by assumption) ?_
                  try simp only [Act.put, List.setIfInBounds_toArray, List.set_cons_zero, List.set_cons_succ]
                  refine wpAnyH_take (i := 32) (oi := { dst := some 102, op := Op.pick (Operand.tmp 91) (Operand.tmp 101) (Operand.const (Value.bool false)), type := 4, pos := "law.go:140", after := #[{ on := 21, ground := Ground.data }, { on := 31, ground := Ground.data }, { on := 13, ground := Ground.guard }], guard := some (13, false) }) (v := .bool false) rfl (by kernel_rfl) (by kernel_rfl) (by kernel_rfl) (fun _ _ _ h => h) (Or.inl ⟨by rfl, fun wS hSw => ?_⟩) (by assumption) ?_
                  · clear hHeld
                    clear hSw
                    go_simp
                  try simp only [Act.put, List.setIfInBounds_toArray, List.set_cons_zero, List.set_cons_succ]
                  refine wpAnyH_take (i := 33) (oi := { dst := some 103, op := Op.pick (Operand.tmp 83) (Operand.const (Value.bool true)) (Operand.tmp 102), type := 4, pos := "law.go:140", after := #[{ on := 13, ground := Ground.data }, { on := 32, ground := Ground.data }], guard := none }) (v := .bool false) rfl (by kernel_rfl) (by kernel_rfl) (by kernel_rfl) (fun _ _ _ h => h) (Or.inl ⟨by rfl, fun wS hSw => ?_⟩) (by assumption) ?_
                  · clear hHeld
                    clear hSw
                    go_simp
                  try simp only [Act.put, List.setIfInBounds_toArray, List.set_cons_zero, List.set_cons_succ]
                  refine wpAnyH_done (by kernel_rfl) ?_ _
                  clear hHeld
                  go_wp2_with fail
                  go_roundw
                  case rel => first | exact ⟨j + 1, by go_num, by omega, HC8.out, HA8.out⟩ | ((repeat apply Exists.intro); exact ⟨⟨j + 1, by go_num, by omega, HC8.out, HA8.out⟩, rfl⟩)
                  case measure => simp [intOf]; omega
                · obtain rfl : OW = (k : Int) := how
                  have ho1 : ¬ (k : Int) < 0 := by omega
                  have hok : ((k : Int) != (k : Int)) = false := by simp
                  have u24 := Try.underlying24
                  refine wp_region_held_drew (S := S15 rs g cap pb k y CX) (by kernel_rfl) (HS15.out _ HC.out.drew) (fun hHeld => ?_)
                  refine wpAnyH_take (i := 0) (oi := { dst := some 70, op := Op.move (Operand.tmp 13), type := 3, pos := "law.go:140", after := #[], guard := none }) (v := .int .i64 (k : Int)) rfl (by kernel_rfl) (by kernel_rfl) (by kernel_rfl) (fun _ _ _ h => h) (Or.inl ⟨by rfl, fun wS hSw => ?_⟩) (by assumption) ?_
                  · clear hHeld
                    clear hSw
                    go_simp
                  try simp only [Act.put, List.setIfInBounds_toArray, List.set_cons_zero, List.set_cons_succ]
                  refine wpAnyH_take (i := 1) (oi := { dst := some 71, op := Op.binOp BinOp.lss 3 (Operand.tmp 70) (Operand.const (Value.int IntKind.i64 0)) 3, type := 4, pos := "law.go:140", after := #[{ on := 0, ground := Ground.data }], guard := none }) (v := .bool false) rfl (by kernel_rfl) (by kernel_rfl) (by kernel_rfl) (fun _ _ _ h => h) (Or.inl ⟨by rfl, fun wS hSw => ?_⟩) (by assumption) ?_
                  · clear hHeld
                    have hoo := ho1
                    clear hSw
                    go_simp
                  try simp only [Act.put, List.setIfInBounds_toArray, List.set_cons_zero, List.set_cons_succ]
                  refine wpAnyH_take (i := 2) (oi := { dst := some 72, op := Op.move (Operand.tmp 71), type := 4, pos := "law.go:140", after := #[{ on := 1, ground := Ground.data }], guard := none }) (v := .bool false) rfl (by kernel_rfl) (by kernel_rfl) (by kernel_rfl) (fun _ _ _ h => h) (Or.inl ⟨by rfl, fun wS hSw => ?_⟩) (by assumption) ?_
                  · clear hHeld
                    clear hSw
                    go_simp
                  try simp only [Act.put, List.setIfInBounds_toArray, List.set_cons_zero, List.set_cons_succ]
                  refine wpAnyH_take (i := 3) (oi := { dst := some 73, op := Op.move (Operand.tmp 10), type := 3, pos := "law.go:140", after := #[{ on := 2, ground := Ground.guard }], guard := some (2, true) }) (v := undef) rfl (by kernel_rfl) (by kernel_rfl) (by kernel_rfl) (fun _ _ _ h => h) (Or.inr ⟨by rfl, rfl⟩) (by assumption) ?_
                  try simp only [Act.put, List.setIfInBounds_toArray, List.set_cons_zero, List.set_cons_succ]
                  refine wpAnyH_take (i := 4) (oi := { dst := some 74, op := Op.move (Operand.tmp 14), type := 3, pos := "law.go:140", after := #[{ on := 2, ground := Ground.guard }], guard := some (2, true) }) (v := undef) rfl (by kernel_rfl) (by kernel_rfl) (by kernel_rfl) (fun _ _ _ h => h) (Or.inr ⟨by rfl, rfl⟩) (by assumption) ?_
                  try simp only [Act.put, List.setIfInBounds_toArray, List.set_cons_zero, List.set_cons_succ]
                  refine wpAnyH_take (i := 5) (oi := { dst := some 75, op := Op.binOp BinOp.neq 3 (Operand.tmp 73) (Operand.tmp 74) 3, type := 4, pos := "law.go:140", after := #[{ on := 3, ground := Ground.data }, { on := 4, ground := Ground.data }, { on := 2, ground := Ground.guard }], guard := some (2, true) }) (v := undef) rfl (by kernel_rfl) (by kernel_rfl) (by kernel_rfl) (fun _ _ _ h => h) (Or.inr ⟨by rfl, rfl⟩) (by assumption) ?_
                  try simp only [Act.put, List.setIfInBounds_toArray, List.set_cons_zero, List.set_cons_succ]
                  refine wpAnyH_take (i := 6) (oi := { dst := some 76, op := Op.move (Operand.tmp 75), type := 4, pos := "law.go:140", after := #[{ on := 5, ground := Ground.data }, { on := 2, ground := Ground.chain }, { on := 2, ground := Ground.guard }], guard := some (2, true) }) (v := undef) rfl (by kernel_rfl) (by kernel_rfl) (by kernel_rfl) (fun _ _ _ h => h) (Or.inr ⟨by rfl, rfl⟩) (by assumption) ?_
                  try simp only [Act.put, List.setIfInBounds_toArray, List.set_cons_zero, List.set_cons_succ]
                  refine wpAnyH_take (i := 7) (oi := { dst := some 77, op := Op.fieldAddr 44 (Operand.tmp 5) 5, type := 0, pos := "law.go:140", after := #[{ on := 6, ground := Ground.guard }], guard := some (6, false) }) (v := undef) rfl (by kernel_rfl) (by kernel_rfl) (by kernel_rfl) (fun _ _ _ h => h) (Or.inr ⟨by rfl, rfl⟩) (by assumption) ?_
                  try simp only [Act.put, List.setIfInBounds_toArray, List.set_cons_zero, List.set_cons_succ]
                  refine wpAnyH_take (i := 8) (oi := { dst := some 78, op := Op.load 24 (Operand.tmp 77), type := 24, pos := "law.go:140", after := #[{ on := 7, ground := Ground.data }, { on := 6, ground := Ground.guard }], guard := some (6, false) }) (v := undef) rfl (by kernel_rfl) (by kernel_rfl) (by kernel_rfl) (fun _ _ _ h => h) (Or.inr ⟨by rfl, rfl⟩) (by assumption) ?_
                  try simp only [Act.put, List.setIfInBounds_toArray, List.set_cons_zero, List.set_cons_succ]
                  refine wpAnyH_take (i := 9) (oi := { dst := some 79, op := Op.move (Operand.tmp 12), type := 3, pos := "law.go:140", after := #[{ on := 6, ground := Ground.guard }], guard := some (6, false) }) (v := undef) rfl (by kernel_rfl) (by kernel_rfl) (by kernel_rfl) (fun _ _ _ h => h) (Or.inr ⟨by rfl, rfl⟩) (by assumption) ?_
                  try simp only [Act.put, List.setIfInBounds_toArray, List.set_cons_zero, List.set_cons_succ]
                  refine wpAnyH_take (i := 10) (oi := { dst := some 80, op := Op.call { callee := Callee.value (Operand.func 22), args := #[Operand.tmp 78, Operand.tmp 79], argTypes := #[24, 3] }, type := 4, pos := "law.go:140", after := #[{ on := 8, ground := Ground.data }, { on := 9, ground := Ground.data }, { on := 6, ground := Ground.chain }, { on := 6, ground := Ground.guard }], guard := some (6, false) }) (v := undef) rfl (by kernel_rfl) (by kernel_rfl) (by kernel_rfl) (fun _ _ _ h => h) (Or.inr ⟨by rfl, rfl⟩) (by assumption) ?_
                  try simp only [Act.put, List.setIfInBounds_toArray, List.set_cons_zero, List.set_cons_succ]
                  refine wpAnyH_take (i := 11) (oi := { dst := some 81, op := Op.pick (Operand.tmp 76) (Operand.const (Value.bool true)) (Operand.tmp 80), type := 4, pos := "law.go:140", after := #[{ on := 6, ground := Ground.data }, { on := 10, ground := Ground.data }, { on := 2, ground := Ground.guard }], guard := some (2, true) }) (v := undef) rfl (by kernel_rfl) (by kernel_rfl) (by kernel_rfl) (fun _ _ _ h => h) (Or.inr ⟨by rfl, rfl⟩) (by assumption) ?_
                  try simp only [Act.put, List.setIfInBounds_toArray, List.set_cons_zero, List.set_cons_succ]
                  refine wpAnyH_take (i := 12) (oi := { dst := some 82, op := Op.pick (Operand.tmp 72) (Operand.tmp 81) (Operand.const (Value.bool false)), type := 4, pos := "law.go:140", after := #[{ on := 2, ground := Ground.data }, { on := 11, ground := Ground.data }], guard := none }) (v := .bool false) rfl (by kernel_rfl) (by kernel_rfl) (by kernel_rfl) (fun _ _ _ h => h) (Or.inl ⟨by rfl, fun wS hSw => ?_⟩) (by assumption) ?_
                  · clear hHeld
                    clear hSw
                    go_simp
                  try simp only [Act.put, List.setIfInBounds_toArray, List.set_cons_zero, List.set_cons_succ]
                  refine wpAnyH_take (i := 13) (oi := { dst := some 83, op := Op.move (Operand.tmp 82), type := 4, pos := "law.go:140", after := #[{ on := 12, ground := Ground.data }, { on := 10, ground := Ground.chain }], guard := none }) (v := .bool false) rfl (by kernel_rfl) (by kernel_rfl) (by kernel_rfl) (fun _ _ _ h => h) (Or.inl ⟨by rfl, fun wS hSw => ?_⟩) (by assumption) ?_
                  · clear hHeld
                    clear hSw
                    go_simp
                  try simp only [Act.put, List.setIfInBounds_toArray, List.set_cons_zero, List.set_cons_succ]
                  refine wpAnyH_take (i := 14) (oi := { dst := some 84, op := Op.move (Operand.tmp 13), type := 3, pos := "law.go:140", after := #[{ on := 13, ground := Ground.guard }], guard := some (13, false) }) (v := .int .i64 (k : Int)) rfl (by kernel_rfl) (by kernel_rfl) (by kernel_rfl) (fun _ _ _ h => h) (Or.inl ⟨by rfl, fun wS hSw => ?_⟩) (by assumption) ?_
                  · clear hHeld
                    clear hSw
                    go_simp
                  try simp only [Act.put, List.setIfInBounds_toArray, List.set_cons_zero, List.set_cons_succ]
                  refine wpAnyH_take (i := 15) (oi := { dst := some 85, op := Op.binOp BinOp.geq 3 (Operand.tmp 84) (Operand.const (Value.int IntKind.i64 0)) 3, type := 4, pos := "law.go:140", after := #[{ on := 14, ground := Ground.data }, { on := 13, ground := Ground.guard }], guard := some (13, false) }) (v := .bool true) rfl (by kernel_rfl) (by kernel_rfl) (by kernel_rfl) (fun _ _ _ h => h) (Or.inl ⟨by rfl, fun wS hSw => ?_⟩) (by assumption) ?_
                  · clear hHeld
                    have hoo := ho1
                    clear hSw
                    go_simp
                  try simp only [Act.put, List.setIfInBounds_toArray, List.set_cons_zero, List.set_cons_succ]
                  refine wpAnyH_take (i := 16) (oi := { dst := some 86, op := Op.move (Operand.tmp 85), type := 4, pos := "law.go:140", after := #[{ on := 15, ground := Ground.data }, { on := 13, ground := Ground.chain }, { on := 13, ground := Ground.guard }], guard := some (13, false) }) (v := .bool true) rfl (by kernel_rfl) (by kernel_rfl) (by kernel_rfl) (fun _ _ _ h => h) (Or.inl ⟨by rfl, fun wS hSw => ?_⟩) (by assumption) ?_
                  · clear hHeld
                    clear hSw
                    go_simp
                  try simp only [Act.put, List.setIfInBounds_toArray, List.set_cons_zero, List.set_cons_succ]
                  refine wpAnyH_take (i := 17) (oi := { dst := some 87, op := Op.move (Operand.tmp 13), type := 3, pos := "law.go:140", after := #[{ on := 16, ground := Ground.guard }], guard := some (16, true) }) (v := .int .i64 (k : Int)) rfl (by kernel_rfl) (by kernel_rfl) (by kernel_rfl) (fun _ _ _ h => h) (Or.inl ⟨by rfl, fun wS hSw => ?_⟩) (by assumption) ?_
                  · clear hHeld
                    clear hSw
                    go_simp
                  try simp only [Act.put, List.setIfInBounds_toArray, List.set_cons_zero, List.set_cons_succ]
                  refine wpAnyH_take (i := 18) (oi := { dst := some 88, op := Op.move (Operand.tmp 10), type := 3, pos := "law.go:140", after := #[{ on := 16, ground := Ground.guard }], guard := some (16, true) }) (v := .int .i64 (k : Int)) rfl (by kernel_rfl) (by kernel_rfl) (by kernel_rfl) (fun _ _ _ h => h) (Or.inl ⟨by rfl, fun wS hSw => ?_⟩) (by assumption) ?_
                  · clear hHeld
                    clear hSw
                    go_simp
                  try simp only [Act.put, List.setIfInBounds_toArray, List.set_cons_zero, List.set_cons_succ]
                  refine wpAnyH_take (i := 19) (oi := { dst := some 89, op := Op.binOp BinOp.neq 3 (Operand.tmp 87) (Operand.tmp 88) 3, type := 4, pos := "law.go:140", after := #[{ on := 17, ground := Ground.data }, { on := 18, ground := Ground.data }, { on := 16, ground := Ground.guard }], guard := some (16, true) }) (v := .bool false) rfl (by kernel_rfl) (by kernel_rfl) (by kernel_rfl) (fun _ _ _ h => h) (Or.inl ⟨by rfl, fun wS hSw => ?_⟩) (by assumption) ?_
                  · clear hHeld
                    have hkk := hok
                    clear hSw
                    go_simp
                  try simp only [Act.put, List.setIfInBounds_toArray, List.set_cons_zero, List.set_cons_succ]
                  refine wpAnyH_take (i := 20) (oi := { dst := some 90, op := Op.pick (Operand.tmp 86) (Operand.tmp 89) (Operand.const (Value.bool false)), type := 4, pos := "law.go:140", after := #[{ on := 16, ground := Ground.data }, { on := 19, ground := Ground.data }, { on := 13, ground := Ground.guard }], guard := some (13, false) }) (v := .bool false) rfl (by kernel_rfl) (by kernel_rfl) (by kernel_rfl) (fun _ _ _ h => h) (Or.inl ⟨by rfl, fun wS hSw => ?_⟩) (by assumption) ?_
                  · clear hHeld
                    clear hSw
                    go_simp
                  try simp only [Act.put, List.setIfInBounds_toArray, List.set_cons_zero, List.set_cons_succ]
                  refine wpAnyH_take (i := 21) (oi := { dst := some 91, op := Op.move (Operand.tmp 90), type := 4, pos := "law.go:140", after := #[{ on := 20, ground := Ground.data }, { on := 16, ground := Ground.chain }, { on := 13, ground := Ground.guard }], guard := some (13, false) }) (v := .bool false) rfl (by kernel_rfl) (by kernel_rfl) (by kernel_rfl) (fun _ _ _ h => h) (Or.inl ⟨by rfl, fun wS hSw => ?_⟩) (by assumption) ?_
                  · clear hHeld
                    clear hSw
                    go_simp
                  try simp only [Act.put, List.setIfInBounds_toArray, List.set_cons_zero, List.set_cons_succ]
                  refine wpAnyH_take (i := 22) (oi := { dst := some 92, op := Op.move (Operand.tmp 7), type := 28, pos := "law.go:140", after := #[{ on := 21, ground := Ground.guard }], guard := some (21, true) }) (v := undef) rfl (by kernel_rfl) (by kernel_rfl) (by kernel_rfl) (fun _ _ _ h => h) (Or.inr ⟨by rfl, rfl⟩) (by assumption) ?_
                  try simp only [Act.put, List.setIfInBounds_toArray, List.set_cons_zero, List.set_cons_succ]
                  refine wpAnyH_take (i := 23) (oi := { dst := some 93, op := Op.move (Operand.tmp 13), type := 3, pos := "law.go:140", after := #[{ on := 21, ground := Ground.guard }], guard := some (21, true) }) (v := undef) rfl (by kernel_rfl) (by kernel_rfl) (by kernel_rfl) (fun _ _ _ h => h) (Or.inr ⟨by rfl, rfl⟩) (by assumption) ?_
                  try simp only [Act.put, List.setIfInBounds_toArray, List.set_cons_zero, List.set_cons_succ]
                  refine wpAnyH_take (i := 24) (oi := { dst := some 94, op := Op.call { callee := Callee.value (Operand.func 18), args := #[Operand.tmp 92, Operand.tmp 93], argTypes := #[28, 3] }, type := 22, pos := "law.go:140", after := #[{ on := 22, ground := Ground.data }, { on := 23, ground := Ground.data }, { on := 21, ground := Ground.chain }, { on := 21, ground := Ground.guard }], guard := some (21, true) }) (v := undef) rfl (by kernel_rfl) (by kernel_rfl) (by kernel_rfl) (fun _ _ _ h => h) (Or.inr ⟨by rfl, rfl⟩) (by assumption) ?_
                  try simp only [Act.put, List.setIfInBounds_toArray, List.set_cons_zero, List.set_cons_succ]
                  refine wpAnyH_take (i := 25) (oi := { dst := some 95, op := Op.fieldAddr 31 (Operand.tmp 8) 1, type := 0, pos := "law.go:140", after := #[{ on := 21, ground := Ground.guard }], guard := some (21, true) }) (v := undef) rfl (by kernel_rfl) (by kernel_rfl) (by kernel_rfl) (fun _ _ _ h => h) (Or.inr ⟨by rfl, rfl⟩) (by assumption) ?_
                  try simp only [Act.put, List.setIfInBounds_toArray, List.set_cons_zero, List.set_cons_succ]
                  refine wpAnyH_take (i := 26) (oi := { dst := some 96, op := Op.load 29 (Operand.tmp 95), type := 29, pos := "law.go:140", after := #[{ on := 25, ground := Ground.data }, { on := 21, ground := Ground.guard }], guard := some (21, true) }) (v := undef) rfl (by kernel_rfl) (by kernel_rfl) (by kernel_rfl) (fun _ _ _ h => h) (Or.inr ⟨by rfl, rfl⟩) (by assumption) ?_
                  try simp only [Act.put, List.setIfInBounds_toArray, List.set_cons_zero, List.set_cons_succ]
                  refine wpAnyH_take (i := 27) (oi := { dst := some 97, op := Op.move (Operand.tmp 10), type := 3, pos := "law.go:140", after := #[{ on := 21, ground := Ground.guard }], guard := some (21, true) }) (v := undef) rfl (by kernel_rfl) (by kernel_rfl) (by kernel_rfl) (fun _ _ _ h => h) (Or.inr ⟨by rfl, rfl⟩) (by assumption) ?_
                  try simp only [Act.put, List.setIfInBounds_toArray, List.set_cons_zero, List.set_cons_succ]
                  refine wpAnyH_take (i := 28) (oi := { dst := some 98, op := Op.indexAddr 29 (Operand.tmp 96) (Operand.tmp 97), type := 0, pos := "law.go:140", after := #[{ on := 26, ground := Ground.data }, { on := 27, ground := Ground.data }, { on := 21, ground := Ground.guard }], guard := some (21, true) }) (v := undef) rfl (by kernel_rfl) (by kernel_rfl) (by kernel_rfl) (fun _ _ _ h => h) (Or.inr ⟨by rfl, rfl⟩) (by assumption) ?_
                  try simp only [Act.put, List.setIfInBounds_toArray, List.set_cons_zero, List.set_cons_succ]
                  refine wpAnyH_take (i := 29) (oi := { dst := some 99, op := Op.fieldAddr 58 (Operand.tmp 98) 0, type := 0, pos := "law.go:140", after := #[{ on := 28, ground := Ground.data }, { on := 21, ground := Ground.guard }], guard := some (21, true) }) (v := undef) rfl (by kernel_rfl) (by kernel_rfl) (by kernel_rfl) (fun _ _ _ h => h) (Or.inr ⟨by rfl, rfl⟩) (by assumption) ?_
                  try simp only [Act.put, List.setIfInBounds_toArray, List.set_cons_zero, List.set_cons_succ]
                  refine wpAnyH_take (i := 30) (oi := { dst := some 100, op := Op.load 22 (Operand.tmp 99), type := 22, pos := "law.go:140", after := #[{ on := 29, ground := Ground.data }, { on := 21, ground := Ground.guard }], guard := some (21, true) }) (v := undef) rfl (by kernel_rfl) (by kernel_rfl) (by kernel_rfl) (fun _ _ _ h => h) (Or.inr ⟨by rfl, rfl⟩) (by assumption) ?_
                  try simp only [Act.put, List.setIfInBounds_toArray, List.set_cons_zero, List.set_cons_succ]
                  refine wpAnyH_take (i := 31) (oi := { dst := some 101, op := Op.binOp BinOp.leq 22 (Operand.tmp 94) (Operand.tmp 100) 22, type := 4, pos := "law.go:140", after := #[{ on := 24, ground := Ground.data }, { on := 30, ground := Ground.data }, { on := 21, ground := Ground.guard }], guard := some (21, true) }) (v := undef) rfl (by kernel_rfl) (by kernel_rfl) (by kernel_rfl) (fun _ _ _ h => h) (Or.inr ⟨by rfl, rfl⟩) (by assumption) ?_
                  try simp only [Act.put, List.setIfInBounds_toArray, List.set_cons_zero, List.set_cons_succ]
                  refine wpAnyH_take (i := 32) (oi := { dst := some 102, op := Op.pick (Operand.tmp 91) (Operand.tmp 101) (Operand.const (Value.bool false)), type := 4, pos := "law.go:140", after := #[{ on := 21, ground := Ground.data }, { on := 31, ground := Ground.data }, { on := 13, ground := Ground.guard }], guard := some (13, false) }) (v := .bool false) rfl (by kernel_rfl) (by kernel_rfl) (by kernel_rfl) (fun _ _ _ h => h) (Or.inl ⟨by rfl, fun wS hSw => ?_⟩) (by assumption) ?_
                  · clear hHeld
                    clear hSw
                    go_simp
                  try simp only [Act.put, List.setIfInBounds_toArray, List.set_cons_zero, List.set_cons_succ]
                  refine wpAnyH_take (i := 33) (oi := { dst := some 103, op := Op.pick (Operand.tmp 83) (Operand.const (Value.bool true)) (Operand.tmp 102), type := 4, pos := "law.go:140", after := #[{ on := 13, ground := Ground.data }, { on := 32, ground := Ground.data }], guard := none }) (v := .bool false) rfl (by kernel_rfl) (by kernel_rfl) (by kernel_rfl) (fun _ _ _ h => h) (Or.inl ⟨by rfl, fun wS hSw => ?_⟩) (by assumption) ?_
                  · clear hHeld
                    clear hSw
                    go_simp
                  try simp only [Act.put, List.setIfInBounds_toArray, List.set_cons_zero, List.set_cons_succ]
                  have HC8 := hid HC.out.drew
                  have HA8 : Hid (w7.drew.ownsRow Bq 3 1 (.slice (some ⟨gq, 0, none⟩) N cl) N (nums l)) := HAl2.out
                  refine wpAnyH_done (by kernel_rfl) ?_ _
                  clear hHeld
                  go_wp2_with fail
                  go_roundw
                  case rel => first | exact ⟨j + 1, by go_num, by omega, HC8.out, HA8.out⟩ | ((repeat apply Exists.intro); exact ⟨⟨j + 1, by go_num, by omega, HC8.out, HA8.out⟩, rfl⟩)
                  case measure => simp [intOf]; omega
                · obtain rfl : OW = (ob : Int) := how
                  have ho1 : ¬ (ob : Int) < 0 := by omega
                  have hok : ((ob : Int) != (k : Int)) = true := by rw [bne_iff_ne]; omega
                  obtain ⟨x, hx⟩ : ∃ x, u.ep ob = x := ⟨_, rfl⟩
                  have HEo : Hid (∀ W, VB W b u → Calls Try.prog 18 #[.pointer (some ⟨b, 0, none⟩), .int .i64 (ob : Int)] W fun e w' => e = .returned (.int .u64 (x : Int)) ∧ w' = W) := fun W h => by
                    have := epoch_any b u (ob : Int) W h
                    rwa [epI_in u hob, hx] at this
                  rw [hx] at hlt2
                  have hxy : ¬ (x : Int) ≤ (y : Int) := by omega
                  clear hx hne
                  have u24 := Try.underlying24
                  refine wp_region_held_drew (S := S15 rs g cap pb k y CX) (by kernel_rfl) (HS15.out _ HC.out.drew) (fun hHeld => ?_)
                  refine wpAnyH_take (i := 0) (oi := { dst := some 70, op := Op.move (Operand.tmp 13), type := 3, pos := "law.go:140", after := #[], guard := none }) (v := .int .i64 (ob : Int)) rfl (by kernel_rfl) (by kernel_rfl) (by kernel_rfl) (fun _ _ _ h => h) (Or.inl ⟨by rfl, fun wS hSw => ?_⟩) (by assumption) ?_
                  · clear hHeld
                    clear hSw
                    go_simp
                  try simp only [Act.put, List.setIfInBounds_toArray, List.set_cons_zero, List.set_cons_succ]
                  refine wpAnyH_take (i := 1) (oi := { dst := some 71, op := Op.binOp BinOp.lss 3 (Operand.tmp 70) (Operand.const (Value.int IntKind.i64 0)) 3, type := 4, pos := "law.go:140", after := #[{ on := 0, ground := Ground.data }], guard := none }) (v := .bool false) rfl (by kernel_rfl) (by kernel_rfl) (by kernel_rfl) (fun _ _ _ h => h) (Or.inl ⟨by rfl, fun wS hSw => ?_⟩) (by assumption) ?_
                  · clear hHeld
                    have hoo := ho1
                    clear hSw
                    go_simp
                  try simp only [Act.put, List.setIfInBounds_toArray, List.set_cons_zero, List.set_cons_succ]
                  refine wpAnyH_take (i := 2) (oi := { dst := some 72, op := Op.move (Operand.tmp 71), type := 4, pos := "law.go:140", after := #[{ on := 1, ground := Ground.data }], guard := none }) (v := .bool false) rfl (by kernel_rfl) (by kernel_rfl) (by kernel_rfl) (fun _ _ _ h => h) (Or.inl ⟨by rfl, fun wS hSw => ?_⟩) (by assumption) ?_
                  · clear hHeld
                    clear hSw
                    go_simp
                  try simp only [Act.put, List.setIfInBounds_toArray, List.set_cons_zero, List.set_cons_succ]
                  refine wpAnyH_take (i := 3) (oi := { dst := some 73, op := Op.move (Operand.tmp 10), type := 3, pos := "law.go:140", after := #[{ on := 2, ground := Ground.guard }], guard := some (2, true) }) (v := undef) rfl (by kernel_rfl) (by kernel_rfl) (by kernel_rfl) (fun _ _ _ h => h) (Or.inr ⟨by rfl, rfl⟩) (by assumption) ?_
                  try simp only [Act.put, List.setIfInBounds_toArray, List.set_cons_zero, List.set_cons_succ]
                  refine wpAnyH_take (i := 4) (oi := { dst := some 74, op := Op.move (Operand.tmp 14), type := 3, pos := "law.go:140", after := #[{ on := 2, ground := Ground.guard }], guard := some (2, true) }) (v := undef) rfl (by kernel_rfl) (by kernel_rfl) (by kernel_rfl) (fun _ _ _ h => h) (Or.inr ⟨by rfl, rfl⟩) (by assumption) ?_
                  try simp only [Act.put, List.setIfInBounds_toArray, List.set_cons_zero, List.set_cons_succ]
                  refine wpAnyH_take (i := 5) (oi := { dst := some 75, op := Op.binOp BinOp.neq 3 (Operand.tmp 73) (Operand.tmp 74) 3, type := 4, pos := "law.go:140", after := #[{ on := 3, ground := Ground.data }, { on := 4, ground := Ground.data }, { on := 2, ground := Ground.guard }], guard := some (2, true) }) (v := undef) rfl (by kernel_rfl) (by kernel_rfl) (by kernel_rfl) (fun _ _ _ h => h) (Or.inr ⟨by rfl, rfl⟩) (by assumption) ?_
                  try simp only [Act.put, List.setIfInBounds_toArray, List.set_cons_zero, List.set_cons_succ]
                  refine wpAnyH_take (i := 6) (oi := { dst := some 76, op := Op.move (Operand.tmp 75), type := 4, pos := "law.go:140", after := #[{ on := 5, ground := Ground.data }, { on := 2, ground := Ground.chain }, { on := 2, ground := Ground.guard }], guard := some (2, true) }) (v := undef) rfl (by kernel_rfl) (by kernel_rfl) (by kernel_rfl) (fun _ _ _ h => h) (Or.inr ⟨by rfl, rfl⟩) (by assumption) ?_
                  try simp only [Act.put, List.setIfInBounds_toArray, List.set_cons_zero, List.set_cons_succ]
                  refine wpAnyH_take (i := 7) (oi := { dst := some 77, op := Op.fieldAddr 44 (Operand.tmp 5) 5, type := 0, pos := "law.go:140", after := #[{ on := 6, ground := Ground.guard }], guard := some (6, false) }) (v := undef) rfl (by kernel_rfl) (by kernel_rfl) (by kernel_rfl) (fun _ _ _ h => h) (Or.inr ⟨by rfl, rfl⟩) (by assumption) ?_
                  try simp only [Act.put, List.setIfInBounds_toArray, List.set_cons_zero, List.set_cons_succ]
                  refine wpAnyH_take (i := 8) (oi := { dst := some 78, op := Op.load 24 (Operand.tmp 77), type := 24, pos := "law.go:140", after := #[{ on := 7, ground := Ground.data }, { on := 6, ground := Ground.guard }], guard := some (6, false) }) (v := undef) rfl (by kernel_rfl) (by kernel_rfl) (by kernel_rfl) (fun _ _ _ h => h) (Or.inr ⟨by rfl, rfl⟩) (by assumption) ?_
                  try simp only [Act.put, List.setIfInBounds_toArray, List.set_cons_zero, List.set_cons_succ]
                  refine wpAnyH_take (i := 9) (oi := { dst := some 79, op := Op.move (Operand.tmp 12), type := 3, pos := "law.go:140", after := #[{ on := 6, ground := Ground.guard }], guard := some (6, false) }) (v := undef) rfl (by kernel_rfl) (by kernel_rfl) (by kernel_rfl) (fun _ _ _ h => h) (Or.inr ⟨by rfl, rfl⟩) (by assumption) ?_
                  try simp only [Act.put, List.setIfInBounds_toArray, List.set_cons_zero, List.set_cons_succ]
                  refine wpAnyH_take (i := 10) (oi := { dst := some 80, op := Op.call { callee := Callee.value (Operand.func 22), args := #[Operand.tmp 78, Operand.tmp 79], argTypes := #[24, 3] }, type := 4, pos := "law.go:140", after := #[{ on := 8, ground := Ground.data }, { on := 9, ground := Ground.data }, { on := 6, ground := Ground.chain }, { on := 6, ground := Ground.guard }], guard := some (6, false) }) (v := undef) rfl (by kernel_rfl) (by kernel_rfl) (by kernel_rfl) (fun _ _ _ h => h) (Or.inr ⟨by rfl, rfl⟩) (by assumption) ?_
                  try simp only [Act.put, List.setIfInBounds_toArray, List.set_cons_zero, List.set_cons_succ]
                  refine wpAnyH_take (i := 11) (oi := { dst := some 81, op := Op.pick (Operand.tmp 76) (Operand.const (Value.bool true)) (Operand.tmp 80), type := 4, pos := "law.go:140", after := #[{ on := 6, ground := Ground.data }, { on := 10, ground := Ground.data }, { on := 2, ground := Ground.guard }], guard := some (2, true) }) (v := undef) rfl (by kernel_rfl) (by kernel_rfl) (by kernel_rfl) (fun _ _ _ h => h) (Or.inr ⟨by rfl, rfl⟩) (by assumption) ?_
                  try simp only [Act.put, List.setIfInBounds_toArray, List.set_cons_zero, List.set_cons_succ]
                  refine wpAnyH_take (i := 12) (oi := { dst := some 82, op := Op.pick (Operand.tmp 72) (Operand.tmp 81) (Operand.const (Value.bool false)), type := 4, pos := "law.go:140", after := #[{ on := 2, ground := Ground.data }, { on := 11, ground := Ground.data }], guard := none }) (v := .bool false) rfl (by kernel_rfl) (by kernel_rfl) (by kernel_rfl) (fun _ _ _ h => h) (Or.inl ⟨by rfl, fun wS hSw => ?_⟩) (by assumption) ?_
                  · clear hHeld
                    clear hSw
                    go_simp
                  try simp only [Act.put, List.setIfInBounds_toArray, List.set_cons_zero, List.set_cons_succ]
                  refine wpAnyH_take (i := 13) (oi := { dst := some 83, op := Op.move (Operand.tmp 82), type := 4, pos := "law.go:140", after := #[{ on := 12, ground := Ground.data }, { on := 10, ground := Ground.chain }], guard := none }) (v := .bool false) rfl (by kernel_rfl) (by kernel_rfl) (by kernel_rfl) (fun _ _ _ h => h) (Or.inl ⟨by rfl, fun wS hSw => ?_⟩) (by assumption) ?_
                  · clear hHeld
                    clear hSw
                    go_simp
                  try simp only [Act.put, List.setIfInBounds_toArray, List.set_cons_zero, List.set_cons_succ]
                  refine wpAnyH_take (i := 14) (oi := { dst := some 84, op := Op.move (Operand.tmp 13), type := 3, pos := "law.go:140", after := #[{ on := 13, ground := Ground.guard }], guard := some (13, false) }) (v := .int .i64 (ob : Int)) rfl (by kernel_rfl) (by kernel_rfl) (by kernel_rfl) (fun _ _ _ h => h) (Or.inl ⟨by rfl, fun wS hSw => ?_⟩) (by assumption) ?_
                  · clear hHeld
                    clear hSw
                    go_simp
                  try simp only [Act.put, List.setIfInBounds_toArray, List.set_cons_zero, List.set_cons_succ]
                  refine wpAnyH_take (i := 15) (oi := { dst := some 85, op := Op.binOp BinOp.geq 3 (Operand.tmp 84) (Operand.const (Value.int IntKind.i64 0)) 3, type := 4, pos := "law.go:140", after := #[{ on := 14, ground := Ground.data }, { on := 13, ground := Ground.guard }], guard := some (13, false) }) (v := .bool true) rfl (by kernel_rfl) (by kernel_rfl) (by kernel_rfl) (fun _ _ _ h => h) (Or.inl ⟨by rfl, fun wS hSw => ?_⟩) (by assumption) ?_
                  · clear hHeld
                    have hoo := ho1
                    clear hSw
                    go_simp
                  try simp only [Act.put, List.setIfInBounds_toArray, List.set_cons_zero, List.set_cons_succ]
                  refine wpAnyH_take (i := 16) (oi := { dst := some 86, op := Op.move (Operand.tmp 85), type := 4, pos := "law.go:140", after := #[{ on := 15, ground := Ground.data }, { on := 13, ground := Ground.chain }, { on := 13, ground := Ground.guard }], guard := some (13, false) }) (v := .bool true) rfl (by kernel_rfl) (by kernel_rfl) (by kernel_rfl) (fun _ _ _ h => h) (Or.inl ⟨by rfl, fun wS hSw => ?_⟩) (by assumption) ?_
                  · clear hHeld
                    clear hSw
                    go_simp
                  try simp only [Act.put, List.setIfInBounds_toArray, List.set_cons_zero, List.set_cons_succ]
                  refine wpAnyH_take (i := 17) (oi := { dst := some 87, op := Op.move (Operand.tmp 13), type := 3, pos := "law.go:140", after := #[{ on := 16, ground := Ground.guard }], guard := some (16, true) }) (v := .int .i64 (ob : Int)) rfl (by kernel_rfl) (by kernel_rfl) (by kernel_rfl) (fun _ _ _ h => h) (Or.inl ⟨by rfl, fun wS hSw => ?_⟩) (by assumption) ?_
                  · clear hHeld
                    clear hSw
                    go_simp
                  try simp only [Act.put, List.setIfInBounds_toArray, List.set_cons_zero, List.set_cons_succ]
                  refine wpAnyH_take (i := 18) (oi := { dst := some 88, op := Op.move (Operand.tmp 10), type := 3, pos := "law.go:140", after := #[{ on := 16, ground := Ground.guard }], guard := some (16, true) }) (v := .int .i64 (k : Int)) rfl (by kernel_rfl) (by kernel_rfl) (by kernel_rfl) (fun _ _ _ h => h) (Or.inl ⟨by rfl, fun wS hSw => ?_⟩) (by assumption) ?_
                  · clear hHeld
                    clear hSw
                    go_simp
                  try simp only [Act.put, List.setIfInBounds_toArray, List.set_cons_zero, List.set_cons_succ]
                  refine wpAnyH_take (i := 19) (oi := { dst := some 89, op := Op.binOp BinOp.neq 3 (Operand.tmp 87) (Operand.tmp 88) 3, type := 4, pos := "law.go:140", after := #[{ on := 17, ground := Ground.data }, { on := 18, ground := Ground.data }, { on := 16, ground := Ground.guard }], guard := some (16, true) }) (v := .bool true) rfl (by kernel_rfl) (by kernel_rfl) (by kernel_rfl) (fun _ _ _ h => h) (Or.inl ⟨by rfl, fun wS hSw => ?_⟩) (by assumption) ?_
                  · clear hHeld
                    have hkk := hok
                    clear hSw
                    go_simp
                  try simp only [Act.put, List.setIfInBounds_toArray, List.set_cons_zero, List.set_cons_succ]
                  refine wpAnyH_take (i := 20) (oi := { dst := some 90, op := Op.pick (Operand.tmp 86) (Operand.tmp 89) (Operand.const (Value.bool false)), type := 4, pos := "law.go:140", after := #[{ on := 16, ground := Ground.data }, { on := 19, ground := Ground.data }, { on := 13, ground := Ground.guard }], guard := some (13, false) }) (v := .bool true) rfl (by kernel_rfl) (by kernel_rfl) (by kernel_rfl) (fun _ _ _ h => h) (Or.inl ⟨by rfl, fun wS hSw => ?_⟩) (by assumption) ?_
                  · clear hHeld
                    clear hSw
                    go_simp
                  try simp only [Act.put, List.setIfInBounds_toArray, List.set_cons_zero, List.set_cons_succ]
                  refine wpAnyH_take (i := 21) (oi := { dst := some 91, op := Op.move (Operand.tmp 90), type := 4, pos := "law.go:140", after := #[{ on := 20, ground := Ground.data }, { on := 16, ground := Ground.chain }, { on := 13, ground := Ground.guard }], guard := some (13, false) }) (v := .bool true) rfl (by kernel_rfl) (by kernel_rfl) (by kernel_rfl) (fun _ _ _ h => h) (Or.inl ⟨by rfl, fun wS hSw => ?_⟩) (by assumption) ?_
                  · clear hHeld
                    clear hSw
                    go_simp
                  try simp only [Act.put, List.setIfInBounds_toArray, List.set_cons_zero, List.set_cons_succ]
                  refine wpAnyH_take (i := 22) (oi := { dst := some 92, op := Op.move (Operand.tmp 7), type := 28, pos := "law.go:140", after := #[{ on := 21, ground := Ground.guard }], guard := some (21, true) }) (v := .pointer (some ⟨b, 0, none⟩)) rfl (by kernel_rfl) (by kernel_rfl) (by kernel_rfl) (fun _ _ _ h => h) (Or.inl ⟨by rfl, fun wS hSw => ?_⟩) (by assumption) ?_
                  · clear hHeld
                    clear hSw
                    go_simp
                  try simp only [Act.put, List.setIfInBounds_toArray, List.set_cons_zero, List.set_cons_succ]
                  refine wpAnyH_take (i := 23) (oi := { dst := some 93, op := Op.move (Operand.tmp 13), type := 3, pos := "law.go:140", after := #[{ on := 21, ground := Ground.guard }], guard := some (21, true) }) (v := .int .i64 (ob : Int)) rfl (by kernel_rfl) (by kernel_rfl) (by kernel_rfl) (fun _ _ _ h => h) (Or.inl ⟨by rfl, fun wS hSw => ?_⟩) (by assumption) ?_
                  · clear hHeld
                    clear hSw
                    go_simp
                  try simp only [Act.put, List.setIfInBounds_toArray, List.set_cons_zero, List.set_cons_succ]
                  refine wpAnyH_take (i := 25) (oi := { dst := some 95, op := Op.fieldAddr 31 (Operand.tmp 8) 1, type := 0, pos := "law.go:140", after := #[{ on := 21, ground := Ground.guard }], guard := some (21, true) }) (v := .pointer (some ⟨rs, 1, none⟩)) rfl (by kernel_rfl) (by kernel_rfl) (by kernel_rfl) (fun _ _ _ h => h) (Or.inl ⟨by rfl, fun wS hSw => ?_⟩) (by assumption) ?_
                  · clear hHeld
                    clear hSw
                    go_simp
                  try simp only [Act.put, List.setIfInBounds_toArray, List.set_cons_zero, List.set_cons_succ]
                  refine wpAnyH_take (i := 26) (oi := { dst := some 96, op := Op.load 29 (Operand.tmp 95), type := 29, pos := "law.go:140", after := #[{ on := 25, ground := Ground.data }, { on := 21, ground := Ground.guard }], guard := some (21, true) }) (v := .slice (some ⟨g, 0, none⟩) 64 cap) rfl (by kernel_rfl) (by kernel_rfl) (by kernel_rfl) (fun _ _ _ h => h) (Or.inl ⟨by rfl, fun wS hSw => ?_⟩) (by assumption) ?_
                  · clear hHeld
                    obtain ⟨s0, s1, s2⟩ := hSw
                    go_simp
                  try simp only [Act.put, List.setIfInBounds_toArray, List.set_cons_zero, List.set_cons_succ]
                  refine wpAnyH_take (i := 27) (oi := { dst := some 97, op := Op.move (Operand.tmp 10), type := 3, pos := "law.go:140", after := #[{ on := 21, ground := Ground.guard }], guard := some (21, true) }) (v := .int .i64 (k : Int)) rfl (by kernel_rfl) (by kernel_rfl) (by kernel_rfl) (fun _ _ _ h => h) (Or.inl ⟨by rfl, fun wS hSw => ?_⟩) (by assumption) ?_
                  · clear hHeld
                    clear hSw
                    go_simp
                  try simp only [Act.put, List.setIfInBounds_toArray, List.set_cons_zero, List.set_cons_succ]
                  refine wpAnyH_take (i := 28) (oi := { dst := some 98, op := Op.indexAddr 29 (Operand.tmp 96) (Operand.tmp 97), type := 0, pos := "law.go:140", after := #[{ on := 26, ground := Ground.data }, { on := 27, ground := Ground.data }, { on := 21, ground := Ground.guard }], guard := some (21, true) }) (v := .pointer (some ⟨g, k * 257, none⟩)) rfl (by kernel_rfl) (by kernel_rfl) (by kernel_rfl) (fun _ _ _ h => h) (Or.inl ⟨by rfl, fun wS hSw => ?_⟩) (by assumption) ?_
                  · clear hHeld
                    clear hSw
                    go_simp
                  try simp only [Act.put, List.setIfInBounds_toArray, List.set_cons_zero, List.set_cons_succ]
                  refine wpAnyH_take (i := 29) (oi := { dst := some 99, op := Op.fieldAddr 58 (Operand.tmp 98) 0, type := 0, pos := "law.go:140", after := #[{ on := 28, ground := Ground.data }, { on := 21, ground := Ground.guard }], guard := some (21, true) }) (v := .pointer (some ⟨g, k * 257, none⟩)) rfl (by kernel_rfl) (by kernel_rfl) (by kernel_rfl) (fun _ _ _ h => h) (Or.inl ⟨by rfl, fun wS hSw => ?_⟩) (by assumption) ?_
                  · clear hHeld
                    clear hSw
                    go_simp
                  try simp only [Act.put, List.setIfInBounds_toArray, List.set_cons_zero, List.set_cons_succ]
                  refine wpAnyH_take (i := 30) (oi := { dst := some 100, op := Op.load 22 (Operand.tmp 99), type := 22, pos := "law.go:140", after := #[{ on := 29, ground := Ground.data }, { on := 21, ground := Ground.guard }], guard := some (21, true) }) (v := .int .u64 (y : Int)) rfl (by kernel_rfl) (by kernel_rfl) (by kernel_rfl) (fun _ _ _ h => h) (Or.inl ⟨by rfl, fun wS hSw => ?_⟩) (by assumption) ?_
                  · clear hHeld
                    obtain ⟨s0, s1, s2⟩ := hSw
                    go_simp
                  try simp only [Act.put, List.setIfInBounds_toArray, List.set_cons_zero, List.set_cons_succ]
                  refine wpAnyH_ready (rs := [24]) (by kernel_rfl) (by simp) ?_
                  refine AllReadyH.cons (o := { dst := some 94, op := Op.call { callee := Callee.value (Operand.func 18), args := #[Operand.tmp 92, Operand.tmp 93], argTypes := #[28, 3] }, type := 22, pos := "law.go:140", after := #[{ on := 22, ground := Ground.data }, { on := 23, ground := Ground.data }, { on := 21, ground := Ground.chain }, { on := 21, ground := Ground.guard }], guard := some (21, true) }) rfl (fun K hK => ?_) AllReadyH.nil
                  clear hHeld
                  go_simp
                  refine (HEo.out _ HC.out.drew.vb).mono ?_; rintro e w8 ⟨rfl, rfl⟩
                  go_wp2_with fail
                  refine hK.out _ _ (HS15.out _ HC.out.drew) (fun hHeld => ?_)
                  clear hK K
                  try simp only [Act.put, List.setIfInBounds_toArray, List.set_cons_zero, List.set_cons_succ]
                  refine wpAnyH_take (i := 31) (oi := { dst := some 101, op := Op.binOp BinOp.leq 22 (Operand.tmp 94) (Operand.tmp 100) 22, type := 4, pos := "law.go:140", after := #[{ on := 24, ground := Ground.data }, { on := 30, ground := Ground.data }, { on := 21, ground := Ground.guard }], guard := some (21, true) }) (v := .bool false) rfl (by kernel_rfl) (by kernel_rfl) (by kernel_rfl) (fun _ _ _ h => h) (Or.inl ⟨by rfl, fun wS hSw => ?_⟩) (by assumption) ?_
                  · clear hHeld
                    have hxx := hxy
                    have hyx := hlt2
                    clear hSw
                    go_simp
                  try simp only [Act.put, List.setIfInBounds_toArray, List.set_cons_zero, List.set_cons_succ]
                  refine wpAnyH_take (i := 32) (oi := { dst := some 102, op := Op.pick (Operand.tmp 91) (Operand.tmp 101) (Operand.const (Value.bool false)), type := 4, pos := "law.go:140", after := #[{ on := 21, ground := Ground.data }, { on := 31, ground := Ground.data }, { on := 13, ground := Ground.guard }], guard := some (13, false) }) (v := .bool false) rfl (by kernel_rfl) (by kernel_rfl) (by kernel_rfl) (fun _ _ _ h => h) (Or.inl ⟨by rfl, fun wS hSw => ?_⟩) (by assumption) ?_
                  · clear hHeld
                    clear hSw
                    go_simp
                  try simp only [Act.put, List.setIfInBounds_toArray, List.set_cons_zero, List.set_cons_succ]
                  refine wpAnyH_take (i := 33) (oi := { dst := some 103, op := Op.pick (Operand.tmp 83) (Operand.const (Value.bool true)) (Operand.tmp 102), type := 4, pos := "law.go:140", after := #[{ on := 13, ground := Ground.data }, { on := 32, ground := Ground.data }], guard := none }) (v := .bool false) rfl (by kernel_rfl) (by kernel_rfl) (by kernel_rfl) (fun _ _ _ h => h) (Or.inl ⟨by rfl, fun wS hSw => ?_⟩) (by assumption) ?_
                  · clear hHeld
                    clear hSw
                    go_simp
                  try simp only [Act.put, List.setIfInBounds_toArray, List.set_cons_zero, List.set_cons_succ]
                  have HC8 := hid HC.out.drew
                  have HA8 : Hid (w7.drew.ownsRow Bq 3 1 (.slice (some ⟨gq, 0, none⟩) N cl) N (nums l)) := HAl2.out
                  refine wpAnyH_done (by kernel_rfl) ?_ _
                  clear hHeld
                  go_wp2_with fail
                  go_roundw
                  case rel => first | exact ⟨j + 1, by go_num, by omega, HC8.out, HA8.out⟩ | ((repeat apply Exists.intro); exact ⟨⟨j + 1, by go_num, by omega, HC8.out, HA8.out⟩, rfl⟩)
                  case measure => simp [intOf]; omega

              · have h3f : (KD == 3) = false := beq_eq_false_iff_ne.2 k3
                rw [HFRn.out k3] at p1
                clear k3
                go_wp2_with fail
                refine HOw.out.mono ?_; rintro r w7 ⟨rfl, rfl⟩
                go_upto_region 15 with fail
                have hcase := hcaseH.out
                clear p0 p1 p2 cs HOw hcaseH h3f
                rcases hcase with ⟨how, hkf0, hpc⟩ | how | ⟨ob, how, hob, hne, hlt2⟩
                · obtain rfl : OW = -1 := how
                  have ho1 : (-1 : Int) < 0 := by omega
                  have hkf : ((k : Int) != FR) = false := by rw [hkf0]; simp
                  have HHs : Hid (∀ W, Calls Try.prog 22 #[.agg CX, .int .i64 (s : Int)] W fun e w' => e = .returned (.bool false) ∧ Below W.heap.size W w') := fun W => by
                    have := HHas.out W
                    rwa [hpc] at this
                  clear hkf0 hpc
                  have u24 := Try.underlying24
                  refine wp_region_held_drew (S := S15 rs g cap pb k y CX) (by kernel_rfl) (HS15.out _ HC.out.drew) (fun hHeld => ?_)
                  refine wpAnyH_take (i := 0) (oi := { dst := some 70, op := Op.move (Operand.tmp 13), type := 3, pos := "law.go:140", after := #[], guard := none }) (v := .int .i64 (-1)) rfl (by kernel_rfl) (by kernel_rfl) (by kernel_rfl) (fun _ _ _ h => h) (Or.inl ⟨by rfl, fun wS hSw => ?_⟩) (by assumption) ?_
                  · clear hHeld
                    clear hSw
                    go_simp
                  try simp only [Act.put, List.setIfInBounds_toArray, List.set_cons_zero, List.set_cons_succ]
                  refine wpAnyH_take (i := 1) (oi := { dst := some 71, op := Op.binOp BinOp.lss 3 (Operand.tmp 70) (Operand.const (Value.int IntKind.i64 0)) 3, type := 4, pos := "law.go:140", after := #[{ on := 0, ground := Ground.data }], guard := none }) (v := .bool true) rfl (by kernel_rfl) (by kernel_rfl) (by kernel_rfl) (fun _ _ _ h => h) (Or.inl ⟨by rfl, fun wS hSw => ?_⟩) (by assumption) ?_
                  · clear hHeld
                    have hoo := ho1
                    clear hSw
                    go_simp
                  try simp only [Act.put, List.setIfInBounds_toArray, List.set_cons_zero, List.set_cons_succ]
                  refine wpAnyH_take (i := 2) (oi := { dst := some 72, op := Op.move (Operand.tmp 71), type := 4, pos := "law.go:140", after := #[{ on := 1, ground := Ground.data }], guard := none }) (v := .bool true) rfl (by kernel_rfl) (by kernel_rfl) (by kernel_rfl) (fun _ _ _ h => h) (Or.inl ⟨by rfl, fun wS hSw => ?_⟩) (by assumption) ?_
                  · clear hHeld
                    clear hSw
                    go_simp
                  try simp only [Act.put, List.setIfInBounds_toArray, List.set_cons_zero, List.set_cons_succ]
                  refine wpAnyH_take (i := 3) (oi := { dst := some 73, op := Op.move (Operand.tmp 10), type := 3, pos := "law.go:140", after := #[{ on := 2, ground := Ground.guard }], guard := some (2, true) }) (v := .int .i64 (k : Int)) rfl (by kernel_rfl) (by kernel_rfl) (by kernel_rfl) (fun _ _ _ h => h) (Or.inl ⟨by rfl, fun wS hSw => ?_⟩) (by assumption) ?_
                  · clear hHeld
                    clear hSw
                    go_simp
                  try simp only [Act.put, List.setIfInBounds_toArray, List.set_cons_zero, List.set_cons_succ]
                  refine wpAnyH_take (i := 4) (oi := { dst := some 74, op := Op.move (Operand.tmp 14), type := 3, pos := "law.go:140", after := #[{ on := 2, ground := Ground.guard }], guard := some (2, true) }) (v := .int .i64 FR) rfl (by kernel_rfl) (by kernel_rfl) (by kernel_rfl) (fun _ _ _ h => h) (Or.inl ⟨by rfl, fun wS hSw => ?_⟩) (by assumption) ?_
                  · clear hHeld
                    clear hSw
                    go_simp
                  try simp only [Act.put, List.setIfInBounds_toArray, List.set_cons_zero, List.set_cons_succ]
                  refine wpAnyH_take (i := 5) (oi := { dst := some 75, op := Op.binOp BinOp.neq 3 (Operand.tmp 73) (Operand.tmp 74) 3, type := 4, pos := "law.go:140", after := #[{ on := 3, ground := Ground.data }, { on := 4, ground := Ground.data }, { on := 2, ground := Ground.guard }], guard := some (2, true) }) (v := .bool false) rfl (by kernel_rfl) (by kernel_rfl) (by kernel_rfl) (fun _ _ _ h => h) (Or.inl ⟨by rfl, fun wS hSw => ?_⟩) (by assumption) ?_
                  · clear hHeld
                    have hff := hkf
                    clear hSw
                    go_simp
                  try simp only [Act.put, List.setIfInBounds_toArray, List.set_cons_zero, List.set_cons_succ]
                  refine wpAnyH_take (i := 6) (oi := { dst := some 76, op := Op.move (Operand.tmp 75), type := 4, pos := "law.go:140", after := #[{ on := 5, ground := Ground.data }, { on := 2, ground := Ground.chain }, { on := 2, ground := Ground.guard }], guard := some (2, true) }) (v := .bool false) rfl (by kernel_rfl) (by kernel_rfl) (by kernel_rfl) (fun _ _ _ h => h) (Or.inl ⟨by rfl, fun wS hSw => ?_⟩) (by assumption) ?_
                  · clear hHeld
                    clear hSw
                    go_simp
                  try simp only [Act.put, List.setIfInBounds_toArray, List.set_cons_zero, List.set_cons_succ]
                  refine wpAnyH_take (i := 7) (oi := { dst := some 77, op := Op.fieldAddr 44 (Operand.tmp 5) 5, type := 0, pos := "law.go:140", after := #[{ on := 6, ground := Ground.guard }], guard := some (6, false) }) (v := .pointer (some ⟨pb, 5, none⟩)) rfl (by kernel_rfl) (by kernel_rfl) (by kernel_rfl) (fun _ _ _ h => h) (Or.inl ⟨by rfl, fun wS hSw => ?_⟩) (by assumption) ?_
                  · clear hHeld
                    clear hSw
                    go_simp
                  try simp only [Act.put, List.setIfInBounds_toArray, List.set_cons_zero, List.set_cons_succ]
                  refine wpAnyH_take (i := 8) (oi := { dst := some 78, op := Op.load 24 (Operand.tmp 77), type := 24, pos := "law.go:140", after := #[{ on := 7, ground := Ground.data }, { on := 6, ground := Ground.guard }], guard := some (6, false) }) (v := .agg CX) rfl (by kernel_rfl) (by kernel_rfl) (by kernel_rfl) (fun _ _ _ h => h) (yieldsIf_load_arr Array.toArray_toList (by rfl) _ _ rfl _ _ rfl (fun _ h => h.2.2) u24 rfl iCX) (by assumption) ?_
                  try simp only [Act.put, List.setIfInBounds_toArray, List.set_cons_zero, List.set_cons_succ]
                  refine wpAnyH_take (i := 9) (oi := { dst := some 79, op := Op.move (Operand.tmp 12), type := 3, pos := "law.go:140", after := #[{ on := 6, ground := Ground.guard }], guard := some (6, false) }) (v := .int .i64 (s : Int)) rfl (by kernel_rfl) (by kernel_rfl) (by kernel_rfl) (fun _ _ _ h => h) (Or.inl ⟨by rfl, fun wS hSw => ?_⟩) (by assumption) ?_
                  · clear hHeld
                    clear hSw
                    go_simp
                  try simp only [Act.put, List.setIfInBounds_toArray, List.set_cons_zero, List.set_cons_succ]
                  refine wpAnyH_ready (rs := [10]) (by kernel_rfl) (by simp) ?_
                  refine AllReadyH.cons (o := { dst := some 80, op := Op.call { callee := Callee.value (Operand.func 22), args := #[Operand.tmp 78, Operand.tmp 79], argTypes := #[24, 3] }, type := 4, pos := "law.go:140", after := #[{ on := 8, ground := Ground.data }, { on := 9, ground := Ground.data }, { on := 6, ground := Ground.chain }, { on := 6, ground := Ground.guard }], guard := some (6, false) }) rfl (fun K hK => ?_) AllReadyH.nil
                  clear hHeld
                  go_simp
                  refine (HHs.out _).mono ?_; rintro e w8 ⟨rfl, hb8⟩
                  have HC8 := hid (HC.out.drew.call hb8)
                  have HA8 := hid (owns_below (show w7.drew.ownsRow Bq 3 1 (.slice (some ⟨gq, 0, none⟩) N cl) N (nums l) from HAl2.out) hb8)
                  clear hb8
                  go_wp2_with fail
                  refine hK.out _ _ (HS15.out _ HC8.out) (fun hHeld => ?_)
                  clear hK K
                  try simp only [Act.put, List.setIfInBounds_toArray, List.set_cons_zero, List.set_cons_succ]
                  refine wpAnyH_take (i := 11) (oi := { dst := some 81, op := Op.pick (Operand.tmp 76) (Operand.const (Value.bool true)) (Operand.tmp 80), type := 4, pos := "law.go:140", after := #[{ on := 6, ground := Ground.data }, { on := 10, ground := Ground.data }, { on := 2, ground := Ground.guard }], guard := some (2, true) }) (v := .bool false) rfl (by kernel_rfl) (by kernel_rfl) (by kernel_rfl) (fun _ _ _ h => h) (Or.inl ⟨by rfl, fun wS hSw => ?_⟩) (by assumption) ?_
                  · clear hHeld
                    clear hSw
                    go_simp
                  try simp only [Act.put, List.setIfInBounds_toArray, List.set_cons_zero, List.set_cons_succ]
                  refine wpAnyH_take (i := 12) (oi := { dst := some 82, op := Op.pick (Operand.tmp 72) (Operand.tmp 81) (Operand.const (Value.bool false)), type := 4, pos := "law.go:140", after := #[{ on := 2, ground := Ground.data }, { on := 11, ground := Ground.data }], guard := none }) (v := .bool false) rfl (by kernel_rfl) (by kernel_rfl) (by kernel_rfl) (fun _ _ _ h => h) (Or.inl ⟨by rfl, fun wS hSw => ?_⟩) (by assumption) ?_
                  · clear hHeld
                    clear hSw
                    go_simp
                  try simp only [Act.put, List.setIfInBounds_toArray, List.set_cons_zero, List.set_cons_succ]
                  refine wpAnyH_take (i := 13) (oi := { dst := some 83, op := Op.move (Operand.tmp 82), type := 4, pos := "law.go:140", after := #[{ on := 12, ground := Ground.data }, { on := 10, ground := Ground.chain }], guard := none }) (v := .bool false) rfl (by kernel_rfl) (by kernel_rfl) (by kernel_rfl) (fun _ _ _ h => h) (Or.inl ⟨by rfl, fun wS hSw => ?_⟩) (by assumption) ?_
                  · clear hHeld
                    clear hSw
                    go_simp
                  try simp only [Act.put, List.setIfInBounds_toArray, List.set_cons_zero, List.set_cons_succ]
                  refine wpAnyH_take (i := 14) (oi := { dst := some 84, op := Op.move (Operand.tmp 13), type := 3, pos := "law.go:140", after := #[{ on := 13, ground := Ground.guard }], guard := some (13, false) }) (v := .int .i64 (-1)) rfl (by kernel_rfl) (by kernel_rfl) (by kernel_rfl) (fun _ _ _ h => h) (Or.inl ⟨by rfl, fun wS hSw => ?_⟩) (by assumption) ?_
                  · clear hHeld
                    clear hSw
                    go_simp
                  try simp only [Act.put, List.setIfInBounds_toArray, List.set_cons_zero, List.set_cons_succ]
                  refine wpAnyH_take (i := 15) (oi := { dst := some 85, op := Op.binOp BinOp.geq 3 (Operand.tmp 84) (Operand.const (Value.int IntKind.i64 0)) 3, type := 4, pos := "law.go:140", after := #[{ on := 14, ground := Ground.data }, { on := 13, ground := Ground.guard }], guard := some (13, false) }) (v := .bool false) rfl (by kernel_rfl) (by kernel_rfl) (by kernel_rfl) (fun _ _ _ h => h) (Or.inl ⟨by rfl, fun wS hSw => ?_⟩) (by assumption) ?_
                  · clear hHeld
                    have hoo := ho1
                    clear hSw
                    go_simp
                  try simp only [Act.put, List.setIfInBounds_toArray, List.set_cons_zero, List.set_cons_succ]
                  refine wpAnyH_take (i := 16) (oi := { dst := some 86, op := Op.move (Operand.tmp 85), type := 4, pos := "law.go:140", after := #[{ on := 15, ground := Ground.data }, { on := 13, ground := Ground.chain }, { on := 13, ground := Ground.guard }], guard := some (13, false) }) (v := .bool false) rfl (by kernel_rfl) (by kernel_rfl) (by kernel_rfl) (fun _ _ _ h => h) (Or.inl ⟨by rfl, fun wS hSw => ?_⟩) (by assumption) ?_
                  · clear hHeld
                    clear hSw
                    go_simp
                  try simp only [Act.put, List.setIfInBounds_toArray, List.set_cons_zero, List.set_cons_succ]
                  refine wpAnyH_take (i := 17) (oi := { dst := some 87, op := Op.move (Operand.tmp 13), type := 3, pos := "law.go:140", after := #[{ on := 16, ground := Ground.guard }], guard := some (16, true) }) (v := undef) rfl (by kernel_rfl) (by kernel_rfl) (by kernel_rfl) (fun _ _ _ h => h) (Or.inr ⟨by rfl, rfl⟩) (by assumption) ?_
                  try simp only [Act.put, List.setIfInBounds_toArray, List.set_cons_zero, List.set_cons_succ]
                  refine wpAnyH_take (i := 18) (oi := { dst := some 88, op := Op.move (Operand.tmp 10), type := 3, pos := "law.go:140", after := #[{ on := 16, ground := Ground.guard }], guard := some (16, true) }) (v := undef) rfl (by kernel_rfl) (by kernel_rfl) (by kernel_rfl) (fun _ _ _ h => h) (Or.inr ⟨by rfl, rfl⟩) (by assumption) ?_
                  try simp only [Act.put, List.setIfInBounds_toArray, List.set_cons_zero, List.set_cons_succ]
                  refine wpAnyH_take (i := 19) (oi := { dst := some 89, op := Op.binOp BinOp.neq 3 (Operand.tmp 87) (Operand.tmp 88) 3, type := 4, pos := "law.go:140", after := #[{ on := 17, ground := Ground.data }, { on := 18, ground := Ground.data }, { on := 16, ground := Ground.guard }], guard := some (16, true) }) (v := undef) rfl (by kernel_rfl) (by kernel_rfl) (by kernel_rfl) (fun _ _ _ h => h) (Or.inr ⟨by rfl, rfl⟩) (by assumption) ?_
                  try simp only [Act.put, List.setIfInBounds_toArray, List.set_cons_zero, List.set_cons_succ]
                  refine wpAnyH_take (i := 20) (oi := { dst := some 90, op := Op.pick (Operand.tmp 86) (Operand.tmp 89) (Operand.const (Value.bool false)), type := 4, pos := "law.go:140", after := #[{ on := 16, ground := Ground.data }, { on := 19, ground := Ground.data }, { on := 13, ground := Ground.guard }], guard := some (13, false) }) (v := .bool false) rfl (by kernel_rfl) (by kernel_rfl) (by kernel_rfl) (fun _ _ _ h => h) (Or.inl ⟨by rfl, fun wS hSw => ?_⟩) (by assumption) ?_
                  · clear hHeld
                    clear hSw
                    go_simp
                  try simp only [Act.put, List.setIfInBounds_toArray, List.set_cons_zero, List.set_cons_succ]
                  refine wpAnyH_take (i := 21) (oi := { dst := some 91, op := Op.move (Operand.tmp 90), type := 4, pos := "law.go:140", after := #[{ on := 20, ground := Ground.data }, { on := 16, ground := Ground.chain }, { on := 13, ground := Ground.guard }], guard := some (13, false) }) (v := .bool false) rfl (by kernel_rfl) (by kernel_rfl) (by kernel_rfl) (fun _ _ _ h => h) (Or.inl ⟨by rfl, fun wS hSw => ?_⟩) (by assumption) ?_
                  · clear hHeld
                    clear hSw
                    go_simp
                  try simp only [Act.put, List.setIfInBounds_toArray, List.set_cons_zero, List.set_cons_succ]
                  refine wpAnyH_take (i := 22) (oi := { dst := some 92, op := Op.move (Operand.tmp 7), type := 28, pos := "law.go:140", after := #[{ on := 21, ground := Ground.guard }], guard := some (21, true) }) (v := undef) rfl (by kernel_rfl) (by kernel_rfl) (by kernel_rfl) (fun _ _ _ h => h) (Or.inr ⟨by rfl, rfl⟩) (by assumption) ?_
                  try simp only [Act.put, List.setIfInBounds_toArray, List.set_cons_zero, List.set_cons_succ]
                  refine wpAnyH_take (i := 23) (oi := { dst := some 93, op := Op.move (Operand.tmp 13), type := 3, pos := "law.go:140", after := #[{ on := 21, ground := Ground.guard }], guard := some (21, true) }) (v := undef) rfl (by kernel_rfl) (by kernel_rfl) (by kernel_rfl) (fun _ _ _ h => h) (Or.inr ⟨by rfl, rfl⟩) (by assumption) ?_
                  try simp only [Act.put, List.setIfInBounds_toArray, List.set_cons_zero, List.set_cons_succ]
                  refine wpAnyH_take (i := 24) (oi := { dst := some 94, op := Op.call { callee := Callee.value (Operand.func 18), args := #[Operand.tmp 92, Operand.tmp 93], argTypes := #[28, 3] }, type := 22, pos := "law.go:140", after := #[{ on := 22, ground := Ground.data }, { on := 23, ground := Ground.data }, { on := 21, ground := Ground.chain }, { on := 21, ground := Ground.guard }], guard := some (21, true) }) (v := undef) rfl (by kernel_rfl) (by kernel_rfl) (by kernel_rfl) (fun _ _ _ h => h) (Or.inr ⟨by rfl, rfl⟩) (by assumption) ?_
                  try simp only [Act.put, List.setIfInBounds_toArray, List.set_cons_zero, List.set_cons_succ]
                  refine wpAnyH_take (i := 25) (oi := { dst := some 95, op := Op.fieldAddr 31 (Operand.tmp 8) 1, type := 0, pos := "law.go:140", after := #[{ on := 21, ground := Ground.guard }], guard := some (21, true) }) (v := undef) rfl (by kernel_rfl) (by kernel_rfl) (by kernel_rfl) (fun _ _ _ h => h) (Or.inr ⟨by rfl, rfl⟩) (by assumption) ?_
                  try simp only [Act.put, List.setIfInBounds_toArray, List.set_cons_zero, List.set_cons_succ]
                  refine wpAnyH_take (i := 26) (oi := { dst := some 96, op := Op.load 29 (Operand.tmp 95), type := 29, pos := "law.go:140", after := #[{ on := 25, ground := Ground.data }, { on := 21, ground := Ground.guard }], guard := some (21, true) }) (v := undef) rfl (by kernel_rfl) (by kernel_rfl) (by kernel_rfl) (fun _ _ _ h => h) (Or.inr ⟨by rfl, rfl⟩) (by assumption) ?_
                  try simp only [Act.put, List.setIfInBounds_toArray, List.set_cons_zero, List.set_cons_succ]
                  refine wpAnyH_take (i := 27) (oi := { dst := some 97, op := Op.move (Operand.tmp 10), type := 3, pos := "law.go:140", after := #[{ on := 21, ground := Ground.guard }], guard := some (21, true) }) (v := undef) rfl (by kernel_rfl) (by kernel_rfl) (by kernel_rfl) (fun _ _ _ h => h) (Or.inr ⟨by rfl, rfl⟩) (by assumption) ?_
                  try simp only [Act.put, List.setIfInBounds_toArray, List.set_cons_zero, List.set_cons_succ]
                  refine wpAnyH_take (i := 28) (oi := { dst := some 98, op := Op.indexAddr 29 (Operand.tmp 96) (Operand.tmp 97), type := 0, pos := "law.go:140", after := #[{ on := 26, ground := Ground.data }, { on := 27, ground := Ground.data }, { on := 21, ground := Ground.guard }], guard := some (21, true) }) (v := undef) rfl (by kernel_rfl) (by kernel_rfl) (by kernel_rfl) (fun _ _ _ h => h) (Or.inr ⟨by rfl, rfl⟩) (by assumption) ?_
                  try simp only [Act.put, List.setIfInBounds_toArray, List.set_cons_zero, List.set_cons_succ]
                  refine wpAnyH_take (i := 29) (oi := { dst := some 99, op := Op.fieldAddr 58 (Operand.tmp 98) 0, type := 0, pos := "law.go:140", after := #[{ on := 28, ground := Ground.data }, { on := 21, ground := Ground.guard }], guard := some (21, true) }) (v := undef) rfl (by kernel_rfl) (by kernel_rfl) (by kernel_rfl) (fun _ _ _ h => h) (Or.inr ⟨by rfl, rfl⟩) (by assumption) ?_
                  try simp only [Act.put, List.setIfInBounds_toArray, List.set_cons_zero, List.set_cons_succ]
                  refine wpAnyH_take (i := 30) (oi := { dst := some 100, op := Op.load 22 (Operand.tmp 99), type := 22, pos := "law.go:140", after := #[{ on := 29, ground := Ground.data }, { on := 21, ground := Ground.guard }], guard := some (21, true) }) (v := undef) rfl (by kernel_rfl) (by kernel_rfl) (by kernel_rfl) (fun _ _ _ h => h) (Or.inr ⟨by rfl, rfl⟩) (by assumption) ?_
                  try simp only [Act.put, List.setIfInBounds_toArray, List.set_cons_zero, List.set_cons_succ]
                  refine wpAnyH_take (i := 31) (oi := { dst := some 101, op := Op.binOp BinOp.leq 22 (Operand.tmp 94) (Operand.tmp 100) 22, type := 4, pos := "law.go:140", after := #[{ on := 24, ground := Ground.data }, { on := 30, ground := Ground.data }, { on := 21, ground := Ground.guard }], guard := some (21, true) }) (v := undef) rfl (by kernel_rfl) (by kernel_rfl) (by kernel_rfl) (fun _ _ _ h => h) (Or.inr ⟨by rfl, rfl⟩) (by assumption) ?_
                  try simp only [Act.put, List.setIfInBounds_toArray, List.set_cons_zero, List.set_cons_succ]
                  refine wpAnyH_take (i := 32) (oi := { dst := some 102, op := Op.pick (Operand.tmp 91) (Operand.tmp 101) (Operand.const (Value.bool false)), type := 4, pos := "law.go:140", after := #[{ on := 21, ground := Ground.data }, { on := 31, ground := Ground.data }, { on := 13, ground := Ground.guard }], guard := some (13, false) }) (v := .bool false) rfl (by kernel_rfl) (by kernel_rfl) (by kernel_rfl) (fun _ _ _ h => h) (Or.inl ⟨by rfl, fun wS hSw => ?_⟩) (by assumption) ?_
                  · clear hHeld
                    clear hSw
                    go_simp
                  try simp only [Act.put, List.setIfInBounds_toArray, List.set_cons_zero, List.set_cons_succ]
                  refine wpAnyH_take (i := 33) (oi := { dst := some 103, op := Op.pick (Operand.tmp 83) (Operand.const (Value.bool true)) (Operand.tmp 102), type := 4, pos := "law.go:140", after := #[{ on := 13, ground := Ground.data }, { on := 32, ground := Ground.data }], guard := none }) (v := .bool false) rfl (by kernel_rfl) (by kernel_rfl) (by kernel_rfl) (fun _ _ _ h => h) (Or.inl ⟨by rfl, fun wS hSw => ?_⟩) (by assumption) ?_
                  · clear hHeld
                    clear hSw
                    go_simp
                  try simp only [Act.put, List.setIfInBounds_toArray, List.set_cons_zero, List.set_cons_succ]
                  refine wpAnyH_done (by kernel_rfl) ?_ _
                  clear hHeld
                  go_wp2_with fail
                  go_roundw
                  case rel => first | exact ⟨j + 1, by go_num, by omega, HC8.out, HA8.out⟩ | ((repeat apply Exists.intro); exact ⟨⟨j + 1, by go_num, by omega, HC8.out, HA8.out⟩, rfl⟩)
                  case measure => simp [intOf]; omega
                · obtain rfl : OW = (k : Int) := how
                  have ho1 : ¬ (k : Int) < 0 := by omega
                  have hok : ((k : Int) != (k : Int)) = false := by simp
                  have u24 := Try.underlying24
                  refine wp_region_held_drew (S := S15 rs g cap pb k y CX) (by kernel_rfl) (HS15.out _ HC.out.drew) (fun hHeld => ?_)
                  refine wpAnyH_take (i := 0) (oi := { dst := some 70, op := Op.move (Operand.tmp 13), type := 3, pos := "law.go:140", after := #[], guard := none }) (v := .int .i64 (k : Int)) rfl (by kernel_rfl) (by kernel_rfl) (by kernel_rfl) (fun _ _ _ h => h) (Or.inl ⟨by rfl, fun wS hSw => ?_⟩) (by assumption) ?_
                  · clear hHeld
                    clear hSw
                    go_simp
                  try simp only [Act.put, List.setIfInBounds_toArray, List.set_cons_zero, List.set_cons_succ]
                  refine wpAnyH_take (i := 1) (oi := { dst := some 71, op := Op.binOp BinOp.lss 3 (Operand.tmp 70) (Operand.const (Value.int IntKind.i64 0)) 3, type := 4, pos := "law.go:140", after := #[{ on := 0, ground := Ground.data }], guard := none }) (v := .bool false) rfl (by kernel_rfl) (by kernel_rfl) (by kernel_rfl) (fun _ _ _ h => h) (Or.inl ⟨by rfl, fun wS hSw => ?_⟩) (by assumption) ?_
                  · clear hHeld
                    have hoo := ho1
                    clear hSw
                    go_simp
                  try simp only [Act.put, List.setIfInBounds_toArray, List.set_cons_zero, List.set_cons_succ]
                  refine wpAnyH_take (i := 2) (oi := { dst := some 72, op := Op.move (Operand.tmp 71), type := 4, pos := "law.go:140", after := #[{ on := 1, ground := Ground.data }], guard := none }) (v := .bool false) rfl (by kernel_rfl) (by kernel_rfl) (by kernel_rfl) (fun _ _ _ h => h) (Or.inl ⟨by rfl, fun wS hSw => ?_⟩) (by assumption) ?_
                  · clear hHeld
                    clear hSw
                    go_simp
                  try simp only [Act.put, List.setIfInBounds_toArray, List.set_cons_zero, List.set_cons_succ]
                  refine wpAnyH_take (i := 3) (oi := { dst := some 73, op := Op.move (Operand.tmp 10), type := 3, pos := "law.go:140", after := #[{ on := 2, ground := Ground.guard }], guard := some (2, true) }) (v := undef) rfl (by kernel_rfl) (by kernel_rfl) (by kernel_rfl) (fun _ _ _ h => h) (Or.inr ⟨by rfl, rfl⟩) (by assumption) ?_
                  try simp only [Act.put, List.setIfInBounds_toArray, List.set_cons_zero, List.set_cons_succ]
                  refine wpAnyH_take (i := 4) (oi := { dst := some 74, op := Op.move (Operand.tmp 14), type := 3, pos := "law.go:140", after := #[{ on := 2, ground := Ground.guard }], guard := some (2, true) }) (v := undef) rfl (by kernel_rfl) (by kernel_rfl) (by kernel_rfl) (fun _ _ _ h => h) (Or.inr ⟨by rfl, rfl⟩) (by assumption) ?_
                  try simp only [Act.put, List.setIfInBounds_toArray, List.set_cons_zero, List.set_cons_succ]
                  refine wpAnyH_take (i := 5) (oi := { dst := some 75, op := Op.binOp BinOp.neq 3 (Operand.tmp 73) (Operand.tmp 74) 3, type := 4, pos := "law.go:140", after := #[{ on := 3, ground := Ground.data }, { on := 4, ground := Ground.data }, { on := 2, ground := Ground.guard }], guard := some (2, true) }) (v := undef) rfl (by kernel_rfl) (by kernel_rfl) (by kernel_rfl) (fun _ _ _ h => h) (Or.inr ⟨by rfl, rfl⟩) (by assumption) ?_
                  try simp only [Act.put, List.setIfInBounds_toArray, List.set_cons_zero, List.set_cons_succ]
                  refine wpAnyH_take (i := 6) (oi := { dst := some 76, op := Op.move (Operand.tmp 75), type := 4, pos := "law.go:140", after := #[{ on := 5, ground := Ground.data }, { on := 2, ground := Ground.chain }, { on := 2, ground := Ground.guard }], guard := some (2, true) }) (v := undef) rfl (by kernel_rfl) (by kernel_rfl) (by kernel_rfl) (fun _ _ _ h => h) (Or.inr ⟨by rfl, rfl⟩) (by assumption) ?_
                  try simp only [Act.put, List.setIfInBounds_toArray, List.set_cons_zero, List.set_cons_succ]
                  refine wpAnyH_take (i := 7) (oi := { dst := some 77, op := Op.fieldAddr 44 (Operand.tmp 5) 5, type := 0, pos := "law.go:140", after := #[{ on := 6, ground := Ground.guard }], guard := some (6, false) }) (v := undef) rfl (by kernel_rfl) (by kernel_rfl) (by kernel_rfl) (fun _ _ _ h => h) (Or.inr ⟨by rfl, rfl⟩) (by assumption) ?_
                  try simp only [Act.put, List.setIfInBounds_toArray, List.set_cons_zero, List.set_cons_succ]
                  refine wpAnyH_take (i := 8) (oi := { dst := some 78, op := Op.load 24 (Operand.tmp 77), type := 24, pos := "law.go:140", after := #[{ on := 7, ground := Ground.data }, { on := 6, ground := Ground.guard }], guard := some (6, false) }) (v := undef) rfl (by kernel_rfl) (by kernel_rfl) (by kernel_rfl) (fun _ _ _ h => h) (Or.inr ⟨by rfl, rfl⟩) (by assumption) ?_
                  try simp only [Act.put, List.setIfInBounds_toArray, List.set_cons_zero, List.set_cons_succ]
                  refine wpAnyH_take (i := 9) (oi := { dst := some 79, op := Op.move (Operand.tmp 12), type := 3, pos := "law.go:140", after := #[{ on := 6, ground := Ground.guard }], guard := some (6, false) }) (v := undef) rfl (by kernel_rfl) (by kernel_rfl) (by kernel_rfl) (fun _ _ _ h => h) (Or.inr ⟨by rfl, rfl⟩) (by assumption) ?_
                  try simp only [Act.put, List.setIfInBounds_toArray, List.set_cons_zero, List.set_cons_succ]
                  refine wpAnyH_take (i := 10) (oi := { dst := some 80, op := Op.call { callee := Callee.value (Operand.func 22), args := #[Operand.tmp 78, Operand.tmp 79], argTypes := #[24, 3] }, type := 4, pos := "law.go:140", after := #[{ on := 8, ground := Ground.data }, { on := 9, ground := Ground.data }, { on := 6, ground := Ground.chain }, { on := 6, ground := Ground.guard }], guard := some (6, false) }) (v := undef) rfl (by kernel_rfl) (by kernel_rfl) (by kernel_rfl) (fun _ _ _ h => h) (Or.inr ⟨by rfl, rfl⟩) (by assumption) ?_
                  try simp only [Act.put, List.setIfInBounds_toArray, List.set_cons_zero, List.set_cons_succ]
                  refine wpAnyH_take (i := 11) (oi := { dst := some 81, op := Op.pick (Operand.tmp 76) (Operand.const (Value.bool true)) (Operand.tmp 80), type := 4, pos := "law.go:140", after := #[{ on := 6, ground := Ground.data }, { on := 10, ground := Ground.data }, { on := 2, ground := Ground.guard }], guard := some (2, true) }) (v := undef) rfl (by kernel_rfl) (by kernel_rfl) (by kernel_rfl) (fun _ _ _ h => h) (Or.inr ⟨by rfl, rfl⟩) (by assumption) ?_
                  try simp only [Act.put, List.setIfInBounds_toArray, List.set_cons_zero, List.set_cons_succ]
                  refine wpAnyH_take (i := 12) (oi := { dst := some 82, op := Op.pick (Operand.tmp 72) (Operand.tmp 81) (Operand.const (Value.bool false)), type := 4, pos := "law.go:140", after := #[{ on := 2, ground := Ground.data }, { on := 11, ground := Ground.data }], guard := none }) (v := .bool false) rfl (by kernel_rfl) (by kernel_rfl) (by kernel_rfl) (fun _ _ _ h => h) (Or.inl ⟨by rfl, fun wS hSw => ?_⟩) (by assumption) ?_
                  · clear hHeld
                    clear hSw
                    go_simp
                  try simp only [Act.put, List.setIfInBounds_toArray, List.set_cons_zero, List.set_cons_succ]
                  refine wpAnyH_take (i := 13) (oi := { dst := some 83, op := Op.move (Operand.tmp 82), type := 4, pos := "law.go:140", after := #[{ on := 12, ground := Ground.data }, { on := 10, ground := Ground.chain }], guard := none }) (v := .bool false) rfl (by kernel_rfl) (by kernel_rfl) (by kernel_rfl) (fun _ _ _ h => h) (Or.inl ⟨by rfl, fun wS hSw => ?_⟩) (by assumption) ?_
                  · clear hHeld
                    clear hSw
                    go_simp
                  try simp only [Act.put, List.setIfInBounds_toArray, List.set_cons_zero, List.set_cons_succ]
                  refine wpAnyH_take (i := 14) (oi := { dst := some 84, op := Op.move (Operand.tmp 13), type := 3, pos := "law.go:140", after := #[{ on := 13, ground := Ground.guard }], guard := some (13, false) }) (v := .int .i64 (k : Int)) rfl (by kernel_rfl) (by kernel_rfl) (by kernel_rfl) (fun _ _ _ h => h) (Or.inl ⟨by rfl, fun wS hSw => ?_⟩) (by assumption) ?_
                  · clear hHeld
                    clear hSw
                    go_simp
                  try simp only [Act.put, List.setIfInBounds_toArray, List.set_cons_zero, List.set_cons_succ]
                  refine wpAnyH_take (i := 15) (oi := { dst := some 85, op := Op.binOp BinOp.geq 3 (Operand.tmp 84) (Operand.const (Value.int IntKind.i64 0)) 3, type := 4, pos := "law.go:140", after := #[{ on := 14, ground := Ground.data }, { on := 13, ground := Ground.guard }], guard := some (13, false) }) (v := .bool true) rfl (by kernel_rfl) (by kernel_rfl) (by kernel_rfl) (fun _ _ _ h => h) (Or.inl ⟨by rfl, fun wS hSw => ?_⟩) (by assumption) ?_
                  · clear hHeld
                    have hoo := ho1
                    clear hSw
                    go_simp
                  try simp only [Act.put, List.setIfInBounds_toArray, List.set_cons_zero, List.set_cons_succ]
                  refine wpAnyH_take (i := 16) (oi := { dst := some 86, op := Op.move (Operand.tmp 85), type := 4, pos := "law.go:140", after := #[{ on := 15, ground := Ground.data }, { on := 13, ground := Ground.chain }, { on := 13, ground := Ground.guard }], guard := some (13, false) }) (v := .bool true) rfl (by kernel_rfl) (by kernel_rfl) (by kernel_rfl) (fun _ _ _ h => h) (Or.inl ⟨by rfl, fun wS hSw => ?_⟩) (by assumption) ?_
                  · clear hHeld
                    clear hSw
                    go_simp
                  try simp only [Act.put, List.setIfInBounds_toArray, List.set_cons_zero, List.set_cons_succ]
                  refine wpAnyH_take (i := 17) (oi := { dst := some 87, op := Op.move (Operand.tmp 13), type := 3, pos := "law.go:140", after := #[{ on := 16, ground := Ground.guard }], guard := some (16, true) }) (v := .int .i64 (k : Int)) rfl (by kernel_rfl) (by kernel_rfl) (by kernel_rfl) (fun _ _ _ h => h) (Or.inl ⟨by rfl, fun wS hSw => ?_⟩) (by assumption) ?_
                  · clear hHeld
                    clear hSw
                    go_simp
                  try simp only [Act.put, List.setIfInBounds_toArray, List.set_cons_zero, List.set_cons_succ]
                  refine wpAnyH_take (i := 18) (oi := { dst := some 88, op := Op.move (Operand.tmp 10), type := 3, pos := "law.go:140", after := #[{ on := 16, ground := Ground.guard }], guard := some (16, true) }) (v := .int .i64 (k : Int)) rfl (by kernel_rfl) (by kernel_rfl) (by kernel_rfl) (fun _ _ _ h => h) (Or.inl ⟨by rfl, fun wS hSw => ?_⟩) (by assumption) ?_
                  · clear hHeld
                    clear hSw
                    go_simp
                  try simp only [Act.put, List.setIfInBounds_toArray, List.set_cons_zero, List.set_cons_succ]
                  refine wpAnyH_take (i := 19) (oi := { dst := some 89, op := Op.binOp BinOp.neq 3 (Operand.tmp 87) (Operand.tmp 88) 3, type := 4, pos := "law.go:140", after := #[{ on := 17, ground := Ground.data }, { on := 18, ground := Ground.data }, { on := 16, ground := Ground.guard }], guard := some (16, true) }) (v := .bool false) rfl (by kernel_rfl) (by kernel_rfl) (by kernel_rfl) (fun _ _ _ h => h) (Or.inl ⟨by rfl, fun wS hSw => ?_⟩) (by assumption) ?_
                  · clear hHeld
                    have hkk := hok
                    clear hSw
                    go_simp
                  try simp only [Act.put, List.setIfInBounds_toArray, List.set_cons_zero, List.set_cons_succ]
                  refine wpAnyH_take (i := 20) (oi := { dst := some 90, op := Op.pick (Operand.tmp 86) (Operand.tmp 89) (Operand.const (Value.bool false)), type := 4, pos := "law.go:140", after := #[{ on := 16, ground := Ground.data }, { on := 19, ground := Ground.data }, { on := 13, ground := Ground.guard }], guard := some (13, false) }) (v := .bool false) rfl (by kernel_rfl) (by kernel_rfl) (by kernel_rfl) (fun _ _ _ h => h) (Or.inl ⟨by rfl, fun wS hSw => ?_⟩) (by assumption) ?_
                  · clear hHeld
                    clear hSw
                    go_simp
                  try simp only [Act.put, List.setIfInBounds_toArray, List.set_cons_zero, List.set_cons_succ]
                  refine wpAnyH_take (i := 21) (oi := { dst := some 91, op := Op.move (Operand.tmp 90), type := 4, pos := "law.go:140", after := #[{ on := 20, ground := Ground.data }, { on := 16, ground := Ground.chain }, { on := 13, ground := Ground.guard }], guard := some (13, false) }) (v := .bool false) rfl (by kernel_rfl) (by kernel_rfl) (by kernel_rfl) (fun _ _ _ h => h) (Or.inl ⟨by rfl, fun wS hSw => ?_⟩) (by assumption) ?_
                  · clear hHeld
                    clear hSw
                    go_simp
                  try simp only [Act.put, List.setIfInBounds_toArray, List.set_cons_zero, List.set_cons_succ]
                  refine wpAnyH_take (i := 22) (oi := { dst := some 92, op := Op.move (Operand.tmp 7), type := 28, pos := "law.go:140", after := #[{ on := 21, ground := Ground.guard }], guard := some (21, true) }) (v := undef) rfl (by kernel_rfl) (by kernel_rfl) (by kernel_rfl) (fun _ _ _ h => h) (Or.inr ⟨by rfl, rfl⟩) (by assumption) ?_
                  try simp only [Act.put, List.setIfInBounds_toArray, List.set_cons_zero, List.set_cons_succ]
                  refine wpAnyH_take (i := 23) (oi := { dst := some 93, op := Op.move (Operand.tmp 13), type := 3, pos := "law.go:140", after := #[{ on := 21, ground := Ground.guard }], guard := some (21, true) }) (v := undef) rfl (by kernel_rfl) (by kernel_rfl) (by kernel_rfl) (fun _ _ _ h => h) (Or.inr ⟨by rfl, rfl⟩) (by assumption) ?_
                  try simp only [Act.put, List.setIfInBounds_toArray, List.set_cons_zero, List.set_cons_succ]
                  refine wpAnyH_take (i := 24) (oi := { dst := some 94, op := Op.call { callee := Callee.value (Operand.func 18), args := #[Operand.tmp 92, Operand.tmp 93], argTypes := #[28, 3] }, type := 22, pos := "law.go:140", after := #[{ on := 22, ground := Ground.data }, { on := 23, ground := Ground.data }, { on := 21, ground := Ground.chain }, { on := 21, ground := Ground.guard }], guard := some (21, true) }) (v := undef) rfl (by kernel_rfl) (by kernel_rfl) (by kernel_rfl) (fun _ _ _ h => h) (Or.inr ⟨by rfl, rfl⟩) (by assumption) ?_
                  try simp only [Act.put, List.setIfInBounds_toArray, List.set_cons_zero, List.set_cons_succ]
                  refine wpAnyH_take (i := 25) (oi := { dst := some 95, op := Op.fieldAddr 31 (Operand.tmp 8) 1, type := 0, pos := "law.go:140", after := #[{ on := 21, ground := Ground.guard }], guard := some (21, true) }) (v := undef) rfl (by kernel_rfl) (by kernel_rfl) (by kernel_rfl) (fun _ _ _ h => h) (Or.inr ⟨by rfl, rfl⟩) (by assumption) ?_
                  try simp only [Act.put, List.setIfInBounds_toArray, List.set_cons_zero, List.set_cons_succ]
                  refine wpAnyH_take (i := 26) (oi := { dst := some 96, op := Op.load 29 (Operand.tmp 95), type := 29, pos := "law.go:140", after := #[{ on := 25, ground := Ground.data }, { on := 21, ground := Ground.guard }], guard := some (21, true) }) (v := undef) rfl (by kernel_rfl) (by kernel_rfl) (by kernel_rfl) (fun _ _ _ h => h) (Or.inr ⟨by rfl, rfl⟩) (by assumption) ?_
                  try simp only [Act.put, List.setIfInBounds_toArray, List.set_cons_zero, List.set_cons_succ]
                  refine wpAnyH_take (i := 27) (oi := { dst := some 97, op := Op.move (Operand.tmp 10), type := 3, pos := "law.go:140", after := #[{ on := 21, ground := Ground.guard }], guard := some (21, true) }) (v := undef) rfl (by kernel_rfl) (by kernel_rfl) (by kernel_rfl) (fun _ _ _ h => h) (Or.inr ⟨by rfl, rfl⟩) (by assumption) ?_
                  try simp only [Act.put, List.setIfInBounds_toArray, List.set_cons_zero, List.set_cons_succ]
                  refine wpAnyH_take (i := 28) (oi := { dst := some 98, op := Op.indexAddr 29 (Operand.tmp 96) (Operand.tmp 97), type := 0, pos := "law.go:140", after := #[{ on := 26, ground := Ground.data }, { on := 27, ground := Ground.data }, { on := 21, ground := Ground.guard }], guard := some (21, true) }) (v := undef) rfl (by kernel_rfl) (by kernel_rfl) (by kernel_rfl) (fun _ _ _ h => h) (Or.inr ⟨by rfl, rfl⟩) (by assumption) ?_
                  try simp only [Act.put, List.setIfInBounds_toArray, List.set_cons_zero, List.set_cons_succ]
                  refine wpAnyH_take (i := 29) (oi := { dst := some 99, op := Op.fieldAddr 58 (Operand.tmp 98) 0, type := 0, pos := "law.go:140", after := #[{ on := 28, ground := Ground.data }, { on := 21, ground := Ground.guard }], guard := some (21, true) }) (v := undef) rfl (by kernel_rfl) (by kernel_rfl) (by kernel_rfl) (fun _ _ _ h => h) (Or.inr ⟨by rfl, rfl⟩) (by assumption) ?_
                  try simp only [Act.put, List.setIfInBounds_toArray, List.set_cons_zero, List.set_cons_succ]
                  refine wpAnyH_take (i := 30) (oi := { dst := some 100, op := Op.load 22 (Operand.tmp 99), type := 22, pos := "law.go:140", after := #[{ on := 29, ground := Ground.data }, { on := 21, ground := Ground.guard }], guard := some (21, true) }) (v := undef) rfl (by kernel_rfl) (by kernel_rfl) (by kernel_rfl) (fun _ _ _ h => h) (Or.inr ⟨by rfl, rfl⟩) (by assumption) ?_
                  try simp only [Act.put, List.setIfInBounds_toArray, List.set_cons_zero, List.set_cons_succ]
                  refine wpAnyH_take (i := 31) (oi := { dst := some 101, op := Op.binOp BinOp.leq 22 (Operand.tmp 94) (Operand.tmp 100) 22, type := 4, pos := "law.go:140", after := #[{ on := 24, ground := Ground.data }, { on := 30, ground := Ground.data }, { on := 21, ground := Ground.guard }], guard := some (21, true) }) (v := undef) rfl (by kernel_rfl) (by kernel_rfl) (by kernel_rfl) (fun _ _ _ h => h) (Or.inr ⟨by rfl, rfl⟩) (by assumption) ?_
                  try simp only [Act.put, List.setIfInBounds_toArray, List.set_cons_zero, List.set_cons_succ]
                  refine wpAnyH_take (i := 32) (oi := { dst := some 102, op := Op.pick (Operand.tmp 91) (Operand.tmp 101) (Operand.const (Value.bool false)), type := 4, pos := "law.go:140", after := #[{ on := 21, ground := Ground.data }, { on := 31, ground := Ground.data }, { on := 13, ground := Ground.guard }], guard := some (13, false) }) (v := .bool false) rfl (by kernel_rfl) (by kernel_rfl) (by kernel_rfl) (fun _ _ _ h => h) (Or.inl ⟨by rfl, fun wS hSw => ?_⟩) (by assumption) ?_
                  · clear hHeld
                    clear hSw
                    go_simp
                  try simp only [Act.put, List.setIfInBounds_toArray, List.set_cons_zero, List.set_cons_succ]
                  refine wpAnyH_take (i := 33) (oi := { dst := some 103, op := Op.pick (Operand.tmp 83) (Operand.const (Value.bool true)) (Operand.tmp 102), type := 4, pos := "law.go:140", after := #[{ on := 13, ground := Ground.data }, { on := 32, ground := Ground.data }], guard := none }) (v := .bool false) rfl (by kernel_rfl) (by kernel_rfl) (by kernel_rfl) (fun _ _ _ h => h) (Or.inl ⟨by rfl, fun wS hSw => ?_⟩) (by assumption) ?_
                  · clear hHeld
                    clear hSw
                    go_simp
                  try simp only [Act.put, List.setIfInBounds_toArray, List.set_cons_zero, List.set_cons_succ]
                  have HC8 := hid HC.out.drew
                  have HA8 : Hid (w7.drew.ownsRow Bq 3 1 (.slice (some ⟨gq, 0, none⟩) N cl) N (nums l)) := HAl2.out
                  refine wpAnyH_done (by kernel_rfl) ?_ _
                  clear hHeld
                  go_wp2_with fail
                  go_roundw
                  case rel => first | exact ⟨j + 1, by go_num, by omega, HC8.out, HA8.out⟩ | ((repeat apply Exists.intro); exact ⟨⟨j + 1, by go_num, by omega, HC8.out, HA8.out⟩, rfl⟩)
                  case measure => simp [intOf]; omega
                · obtain rfl : OW = (ob : Int) := how
                  have ho1 : ¬ (ob : Int) < 0 := by omega
                  have hok : ((ob : Int) != (k : Int)) = true := by rw [bne_iff_ne]; omega
                  obtain ⟨x, hx⟩ : ∃ x, u.ep ob = x := ⟨_, rfl⟩
                  have HEo : Hid (∀ W, VB W b u → Calls Try.prog 18 #[.pointer (some ⟨b, 0, none⟩), .int .i64 (ob : Int)] W fun e w' => e = .returned (.int .u64 (x : Int)) ∧ w' = W) := fun W h => by
                    have := epoch_any b u (ob : Int) W h
                    rwa [epI_in u hob, hx] at this
                  rw [hx] at hlt2
                  have hxy : ¬ (x : Int) ≤ (y : Int) := by omega
                  clear hx hne
                  have u24 := Try.underlying24
                  refine wp_region_held_drew (S := S15 rs g cap pb k y CX) (by kernel_rfl) (HS15.out _ HC.out.drew) (fun hHeld => ?_)
                  refine wpAnyH_take (i := 0) (oi := { dst := some 70, op := Op.move (Operand.tmp 13), type := 3, pos := "law.go:140", after := #[], guard := none }) (v := .int .i64 (ob : Int)) rfl (by kernel_rfl) (by kernel_rfl) (by kernel_rfl) (fun _ _ _ h => h) (Or.inl ⟨by rfl, fun wS hSw => ?_⟩) (by assumption) ?_
                  · clear hHeld
                    clear hSw
                    go_simp
                  try simp only [Act.put, List.setIfInBounds_toArray, List.set_cons_zero, List.set_cons_succ]
                  refine wpAnyH_take (i := 1) (oi := { dst := some 71, op := Op.binOp BinOp.lss 3 (Operand.tmp 70) (Operand.const (Value.int IntKind.i64 0)) 3, type := 4, pos := "law.go:140", after := #[{ on := 0, ground := Ground.data }], guard := none }) (v := .bool false) rfl (by kernel_rfl) (by kernel_rfl) (by kernel_rfl) (fun _ _ _ h => h) (Or.inl ⟨by rfl, fun wS hSw => ?_⟩) (by assumption) ?_
                  · clear hHeld
                    have hoo := ho1
                    clear hSw
                    go_simp
                  try simp only [Act.put, List.setIfInBounds_toArray, List.set_cons_zero, List.set_cons_succ]
                  refine wpAnyH_take (i := 2) (oi := { dst := some 72, op := Op.move (Operand.tmp 71), type := 4, pos := "law.go:140", after := #[{ on := 1, ground := Ground.data }], guard := none }) (v := .bool false) rfl (by kernel_rfl) (by kernel_rfl) (by kernel_rfl) (fun _ _ _ h => h) (Or.inl ⟨by rfl, fun wS hSw => ?_⟩) (by assumption) ?_
                  · clear hHeld
                    clear hSw
                    go_simp
                  try simp only [Act.put, List.setIfInBounds_toArray, List.set_cons_zero, List.set_cons_succ]
                  refine wpAnyH_take (i := 3) (oi := { dst := some 73, op := Op.move (Operand.tmp 10), type := 3, pos := "law.go:140", after := #[{ on := 2, ground := Ground.guard }], guard := some (2, true) }) (v := undef) rfl (by kernel_rfl) (by kernel_rfl) (by kernel_rfl) (fun _ _ _ h => h) (Or.inr ⟨by rfl, rfl⟩) (by assumption) ?_
                  try simp only [Act.put, List.setIfInBounds_toArray, List.set_cons_zero, List.set_cons_succ]
                  refine wpAnyH_take (i := 4) (oi := { dst := some 74, op := Op.move (Operand.tmp 14), type := 3, pos := "law.go:140", after := #[{ on := 2, ground := Ground.guard }], guard := some (2, true) }) (v := undef) rfl (by kernel_rfl) (by kernel_rfl) (by kernel_rfl) (fun _ _ _ h => h) (Or.inr ⟨by rfl, rfl⟩) (by assumption) ?_
                  try simp only [Act.put, List.setIfInBounds_toArray, List.set_cons_zero, List.set_cons_succ]
                  refine wpAnyH_take (i := 5) (oi := { dst := some 75, op := Op.binOp BinOp.neq 3 (Operand.tmp 73) (Operand.tmp 74) 3, type := 4, pos := "law.go:140", after := #[{ on := 3, ground := Ground.data }, { on := 4, ground := Ground.data }, { on := 2, ground := Ground.guard }], guard := some (2, true) }) (v := undef) rfl (by kernel_rfl) (by kernel_rfl) (by kernel_rfl) (fun _ _ _ h => h) (Or.inr ⟨by rfl, rfl⟩) (by assumption) ?_
                  try simp only [Act.put, List.setIfInBounds_toArray, List.set_cons_zero, List.set_cons_succ]
                  refine wpAnyH_take (i := 6) (oi := { dst := some 76, op := Op.move (Operand.tmp 75), type := 4, pos := "law.go:140", after := #[{ on := 5, ground := Ground.data }, { on := 2, ground := Ground.chain }, { on := 2, ground := Ground.guard }], guard := some (2, true) }) (v := undef) rfl (by kernel_rfl) (by kernel_rfl) (by kernel_rfl) (fun _ _ _ h => h) (Or.inr ⟨by rfl, rfl⟩) (by assumption) ?_
                  try simp only [Act.put, List.setIfInBounds_toArray, List.set_cons_zero, List.set_cons_succ]
                  refine wpAnyH_take (i := 7) (oi := { dst := some 77, op := Op.fieldAddr 44 (Operand.tmp 5) 5, type := 0, pos := "law.go:140", after := #[{ on := 6, ground := Ground.guard }], guard := some (6, false) }) (v := undef) rfl (by kernel_rfl) (by kernel_rfl) (by kernel_rfl) (fun _ _ _ h => h) (Or.inr ⟨by rfl, rfl⟩) (by assumption) ?_
                  try simp only [Act.put, List.setIfInBounds_toArray, List.set_cons_zero, List.set_cons_succ]
                  refine wpAnyH_take (i := 8) (oi := { dst := some 78, op := Op.load 24 (Operand.tmp 77), type := 24, pos := "law.go:140", after := #[{ on := 7, ground := Ground.data }, { on := 6, ground := Ground.guard }], guard := some (6, false) }) (v := undef) rfl (by kernel_rfl) (by kernel_rfl) (by kernel_rfl) (fun _ _ _ h => h) (Or.inr ⟨by rfl, rfl⟩) (by assumption) ?_
                  try simp only [Act.put, List.setIfInBounds_toArray, List.set_cons_zero, List.set_cons_succ]
                  refine wpAnyH_take (i := 9) (oi := { dst := some 79, op := Op.move (Operand.tmp 12), type := 3, pos := "law.go:140", after := #[{ on := 6, ground := Ground.guard }], guard := some (6, false) }) (v := undef) rfl (by kernel_rfl) (by kernel_rfl) (by kernel_rfl) (fun _ _ _ h => h) (Or.inr ⟨by rfl, rfl⟩) (by assumption) ?_
                  try simp only [Act.put, List.setIfInBounds_toArray, List.set_cons_zero, List.set_cons_succ]
                  refine wpAnyH_take (i := 10) (oi := { dst := some 80, op := Op.call { callee := Callee.value (Operand.func 22), args := #[Operand.tmp 78, Operand.tmp 79], argTypes := #[24, 3] }, type := 4, pos := "law.go:140", after := #[{ on := 8, ground := Ground.data }, { on := 9, ground := Ground.data }, { on := 6, ground := Ground.chain }, { on := 6, ground := Ground.guard }], guard := some (6, false) }) (v := undef) rfl (by kernel_rfl) (by kernel_rfl) (by kernel_rfl) (fun _ _ _ h => h) (Or.inr ⟨by rfl, rfl⟩) (by assumption) ?_
                  try simp only [Act.put, List.setIfInBounds_toArray, List.set_cons_zero, List.set_cons_succ]
                  refine wpAnyH_take (i := 11) (oi := { dst := some 81, op := Op.pick (Operand.tmp 76) (Operand.const (Value.bool true)) (Operand.tmp 80), type := 4, pos := "law.go:140", after := #[{ on := 6, ground := Ground.data }, { on := 10, ground := Ground.data }, { on := 2, ground := Ground.guard }], guard := some (2, true) }) (v := undef) rfl (by kernel_rfl) (by kernel_rfl) (by kernel_rfl) (fun _ _ _ h => h) (Or.inr ⟨by rfl, rfl⟩) (by assumption) ?_
                  try simp only [Act.put, List.setIfInBounds_toArray, List.set_cons_zero, List.set_cons_succ]
                  refine wpAnyH_take (i := 12) (oi := { dst := some 82, op := Op.pick (Operand.tmp 72) (Operand.tmp 81) (Operand.const (Value.bool false)), type := 4, pos := "law.go:140", after := #[{ on := 2, ground := Ground.data }, { on := 11, ground := Ground.data }], guard := none }) (v := .bool false) rfl (by kernel_rfl) (by kernel_rfl) (by kernel_rfl) (fun _ _ _ h => h) (Or.inl ⟨by rfl, fun wS hSw => ?_⟩) (by assumption) ?_
                  · clear hHeld
                    clear hSw
                    go_simp
                  try simp only [Act.put, List.setIfInBounds_toArray, List.set_cons_zero, List.set_cons_succ]
                  refine wpAnyH_take (i := 13) (oi := { dst := some 83, op := Op.move (Operand.tmp 82), type := 4, pos := "law.go:140", after := #[{ on := 12, ground := Ground.data }, { on := 10, ground := Ground.chain }], guard := none }) (v := .bool false) rfl (by kernel_rfl) (by kernel_rfl) (by kernel_rfl) (fun _ _ _ h => h) (Or.inl ⟨by rfl, fun wS hSw => ?_⟩) (by assumption) ?_
                  · clear hHeld
                    clear hSw
                    go_simp
                  try simp only [Act.put, List.setIfInBounds_toArray, List.set_cons_zero, List.set_cons_succ]
                  refine wpAnyH_take (i := 14) (oi := { dst := some 84, op := Op.move (Operand.tmp 13), type := 3, pos := "law.go:140", after := #[{ on := 13, ground := Ground.guard }], guard := some (13, false) }) (v := .int .i64 (ob : Int)) rfl (by kernel_rfl) (by kernel_rfl) (by kernel_rfl) (fun _ _ _ h => h) (Or.inl ⟨by rfl, fun wS hSw => ?_⟩) (by assumption) ?_
                  · clear hHeld
                    clear hSw
                    go_simp
                  try simp only [Act.put, List.setIfInBounds_toArray, List.set_cons_zero, List.set_cons_succ]
                  refine wpAnyH_take (i := 15) (oi := { dst := some 85, op := Op.binOp BinOp.geq 3 (Operand.tmp 84) (Operand.const (Value.int IntKind.i64 0)) 3, type := 4, pos := "law.go:140", after := #[{ on := 14, ground := Ground.data }, { on := 13, ground := Ground.guard }], guard := some (13, false) }) (v := .bool true) rfl (by kernel_rfl) (by kernel_rfl) (by kernel_rfl) (fun _ _ _ h => h) (Or.inl ⟨by rfl, fun wS hSw => ?_⟩) (by assumption) ?_
                  · clear hHeld
                    have hoo := ho1
                    clear hSw
                    go_simp
                  try simp only [Act.put, List.setIfInBounds_toArray, List.set_cons_zero, List.set_cons_succ]
                  refine wpAnyH_take (i := 16) (oi := { dst := some 86, op := Op.move (Operand.tmp 85), type := 4, pos := "law.go:140", after := #[{ on := 15, ground := Ground.data }, { on := 13, ground := Ground.chain }, { on := 13, ground := Ground.guard }], guard := some (13, false) }) (v := .bool true) rfl (by kernel_rfl) (by kernel_rfl) (by kernel_rfl) (fun _ _ _ h => h) (Or.inl ⟨by rfl, fun wS hSw => ?_⟩) (by assumption) ?_
                  · clear hHeld
                    clear hSw
                    go_simp
                  try simp only [Act.put, List.setIfInBounds_toArray, List.set_cons_zero, List.set_cons_succ]
                  refine wpAnyH_take (i := 17) (oi := { dst := some 87, op := Op.move (Operand.tmp 13), type := 3, pos := "law.go:140", after := #[{ on := 16, ground := Ground.guard }], guard := some (16, true) }) (v := .int .i64 (ob : Int)) rfl (by kernel_rfl) (by kernel_rfl) (by kernel_rfl) (fun _ _ _ h => h) (Or.inl ⟨by rfl, fun wS hSw => ?_⟩) (by assumption) ?_
                  · clear hHeld
                    clear hSw
                    go_simp
                  try simp only [Act.put, List.setIfInBounds_toArray, List.set_cons_zero, List.set_cons_succ]
                  refine wpAnyH_take (i := 18) (oi := { dst := some 88, op := Op.move (Operand.tmp 10), type := 3, pos := "law.go:140", after := #[{ on := 16, ground := Ground.guard }], guard := some (16, true) }) (v := .int .i64 (k : Int)) rfl (by kernel_rfl) (by kernel_rfl) (by kernel_rfl) (fun _ _ _ h => h) (Or.inl ⟨by rfl, fun wS hSw => ?_⟩) (by assumption) ?_
                  · clear hHeld
                    clear hSw
                    go_simp
                  try simp only [Act.put, List.setIfInBounds_toArray, List.set_cons_zero, List.set_cons_succ]
                  refine wpAnyH_take (i := 19) (oi := { dst := some 89, op := Op.binOp BinOp.neq 3 (Operand.tmp 87) (Operand.tmp 88) 3, type := 4, pos := "law.go:140", after := #[{ on := 17, ground := Ground.data }, { on := 18, ground := Ground.data }, { on := 16, ground := Ground.guard }], guard := some (16, true) }) (v := .bool true) rfl (by kernel_rfl) (by kernel_rfl) (by kernel_rfl) (fun _ _ _ h => h) (Or.inl ⟨by rfl, fun wS hSw => ?_⟩) (by assumption) ?_
                  · clear hHeld
                    have hkk := hok
                    clear hSw
                    go_simp
                  try simp only [Act.put, List.setIfInBounds_toArray, List.set_cons_zero, List.set_cons_succ]
                  refine wpAnyH_take (i := 20) (oi := { dst := some 90, op := Op.pick (Operand.tmp 86) (Operand.tmp 89) (Operand.const (Value.bool false)), type := 4, pos := "law.go:140", after := #[{ on := 16, ground := Ground.data }, { on := 19, ground := Ground.data }, { on := 13, ground := Ground.guard }], guard := some (13, false) }) (v := .bool true) rfl (by kernel_rfl) (by kernel_rfl) (by kernel_rfl) (fun _ _ _ h => h) (Or.inl ⟨by rfl, fun wS hSw => ?_⟩) (by assumption) ?_
                  · clear hHeld
                    clear hSw
                    go_simp
                  try simp only [Act.put, List.setIfInBounds_toArray, List.set_cons_zero, List.set_cons_succ]
                  refine wpAnyH_take (i := 21) (oi := { dst := some 91, op := Op.move (Operand.tmp 90), type := 4, pos := "law.go:140", after := #[{ on := 20, ground := Ground.data }, { on := 16, ground := Ground.chain }, { on := 13, ground := Ground.guard }], guard := some (13, false) }) (v := .bool true) rfl (by kernel_rfl) (by kernel_rfl) (by kernel_rfl) (fun _ _ _ h => h) (Or.inl ⟨by rfl, fun wS hSw => ?_⟩) (by assumption) ?_
                  · clear hHeld
                    clear hSw
                    go_simp
                  try simp only [Act.put, List.setIfInBounds_toArray, List.set_cons_zero, List.set_cons_succ]
                  refine wpAnyH_take (i := 22) (oi := { dst := some 92, op := Op.move (Operand.tmp 7), type := 28, pos := "law.go:140", after := #[{ on := 21, ground := Ground.guard }], guard := some (21, true) }) (v := .pointer (some ⟨b, 0, none⟩)) rfl (by kernel_rfl) (by kernel_rfl) (by kernel_rfl) (fun _ _ _ h => h) (Or.inl ⟨by rfl, fun wS hSw => ?_⟩) (by assumption) ?_
                  · clear hHeld
                    clear hSw
                    go_simp
                  try simp only [Act.put, List.setIfInBounds_toArray, List.set_cons_zero, List.set_cons_succ]
                  refine wpAnyH_take (i := 23) (oi := { dst := some 93, op := Op.move (Operand.tmp 13), type := 3, pos := "law.go:140", after := #[{ on := 21, ground := Ground.guard }], guard := some (21, true) }) (v := .int .i64 (ob : Int)) rfl (by kernel_rfl) (by kernel_rfl) (by kernel_rfl) (fun _ _ _ h => h) (Or.inl ⟨by rfl, fun wS hSw => ?_⟩) (by assumption) ?_
                  · clear hHeld
                    clear hSw
                    go_simp
                  try simp only [Act.put, List.setIfInBounds_toArray, List.set_cons_zero, List.set_cons_succ]
                  refine wpAnyH_take (i := 25) (oi := { dst := some 95, op := Op.fieldAddr 31 (Operand.tmp 8) 1, type := 0, pos := "law.go:140", after := #[{ on := 21, ground := Ground.guard }], guard := some (21, true) }) (v := .pointer (some ⟨rs, 1, none⟩)) rfl (by kernel_rfl) (by kernel_rfl) (by kernel_rfl) (fun _ _ _ h => h) (Or.inl ⟨by rfl, fun wS hSw => ?_⟩) (by assumption) ?_
                  · clear hHeld
                    clear hSw
                    go_simp
                  try simp only [Act.put, List.setIfInBounds_toArray, List.set_cons_zero, List.set_cons_succ]
                  refine wpAnyH_take (i := 26) (oi := { dst := some 96, op := Op.load 29 (Operand.tmp 95), type := 29, pos := "law.go:140", after := #[{ on := 25, ground := Ground.data }, { on := 21, ground := Ground.guard }], guard := some (21, true) }) (v := .slice (some ⟨g, 0, none⟩) 64 cap) rfl (by kernel_rfl) (by kernel_rfl) (by kernel_rfl) (fun _ _ _ h => h) (Or.inl ⟨by rfl, fun wS hSw => ?_⟩) (by assumption) ?_
                  · clear hHeld
                    obtain ⟨s0, s1, s2⟩ := hSw
                    go_simp
                  try simp only [Act.put, List.setIfInBounds_toArray, List.set_cons_zero, List.set_cons_succ]
                  refine wpAnyH_take (i := 27) (oi := { dst := some 97, op := Op.move (Operand.tmp 10), type := 3, pos := "law.go:140", after := #[{ on := 21, ground := Ground.guard }], guard := some (21, true) }) (v := .int .i64 (k : Int)) rfl (by kernel_rfl) (by kernel_rfl) (by kernel_rfl) (fun _ _ _ h => h) (Or.inl ⟨by rfl, fun wS hSw => ?_⟩) (by assumption) ?_
                  · clear hHeld
                    clear hSw
                    go_simp
                  try simp only [Act.put, List.setIfInBounds_toArray, List.set_cons_zero, List.set_cons_succ]
                  refine wpAnyH_take (i := 28) (oi := { dst := some 98, op := Op.indexAddr 29 (Operand.tmp 96) (Operand.tmp 97), type := 0, pos := "law.go:140", after := #[{ on := 26, ground := Ground.data }, { on := 27, ground := Ground.data }, { on := 21, ground := Ground.guard }], guard := some (21, true) }) (v := .pointer (some ⟨g, k * 257, none⟩)) rfl (by kernel_rfl) (by kernel_rfl) (by kernel_rfl) (fun _ _ _ h => h) (Or.inl ⟨by rfl, fun wS hSw => ?_⟩) (by assumption) ?_
                  · clear hHeld
                    clear hSw
                    go_simp
                  try simp only [Act.put, List.setIfInBounds_toArray, List.set_cons_zero, List.set_cons_succ]
                  refine wpAnyH_take (i := 29) (oi := { dst := some 99, op := Op.fieldAddr 58 (Operand.tmp 98) 0, type := 0, pos := "law.go:140", after := #[{ on := 28, ground := Ground.data }, { on := 21, ground := Ground.guard }], guard := some (21, true) }) (v := .pointer (some ⟨g, k * 257, none⟩)) rfl (by kernel_rfl) (by kernel_rfl) (by kernel_rfl) (fun _ _ _ h => h) (Or.inl ⟨by rfl, fun wS hSw => ?_⟩) (by assumption) ?_
                  · clear hHeld
                    clear hSw
                    go_simp
                  try simp only [Act.put, List.setIfInBounds_toArray, List.set_cons_zero, List.set_cons_succ]
                  refine wpAnyH_take (i := 30) (oi := { dst := some 100, op := Op.load 22 (Operand.tmp 99), type := 22, pos := "law.go:140", after := #[{ on := 29, ground := Ground.data }, { on := 21, ground := Ground.guard }], guard := some (21, true) }) (v := .int .u64 (y : Int)) rfl (by kernel_rfl) (by kernel_rfl) (by kernel_rfl) (fun _ _ _ h => h) (Or.inl ⟨by rfl, fun wS hSw => ?_⟩) (by assumption) ?_
                  · clear hHeld
                    obtain ⟨s0, s1, s2⟩ := hSw
                    go_simp
                  try simp only [Act.put, List.setIfInBounds_toArray, List.set_cons_zero, List.set_cons_succ]
                  refine wpAnyH_ready (rs := [24]) (by kernel_rfl) (by simp) ?_
                  refine AllReadyH.cons (o := { dst := some 94, op := Op.call { callee := Callee.value (Operand.func 18), args := #[Operand.tmp 92, Operand.tmp 93], argTypes := #[28, 3] }, type := 22, pos := "law.go:140", after := #[{ on := 22, ground := Ground.data }, { on := 23, ground := Ground.data }, { on := 21, ground := Ground.chain }, { on := 21, ground := Ground.guard }], guard := some (21, true) }) rfl (fun K hK => ?_) AllReadyH.nil
                  clear hHeld
                  go_simp
                  refine (HEo.out _ HC.out.drew.vb).mono ?_; rintro e w8 ⟨rfl, rfl⟩
                  go_wp2_with fail
                  refine hK.out _ _ (HS15.out _ HC.out.drew) (fun hHeld => ?_)
                  clear hK K
                  try simp only [Act.put, List.setIfInBounds_toArray, List.set_cons_zero, List.set_cons_succ]
                  refine wpAnyH_take (i := 31) (oi := { dst := some 101, op := Op.binOp BinOp.leq 22 (Operand.tmp 94) (Operand.tmp 100) 22, type := 4, pos := "law.go:140", after := #[{ on := 24, ground := Ground.data }, { on := 30, ground := Ground.data }, { on := 21, ground := Ground.guard }], guard := some (21, true) }) (v := .bool false) rfl (by kernel_rfl) (by kernel_rfl) (by kernel_rfl) (fun _ _ _ h => h) (Or.inl ⟨by rfl, fun wS hSw => ?_⟩) (by assumption) ?_
                  · clear hHeld
                    have hxx := hxy
                    have hyx := hlt2
                    clear hSw
                    go_simp
                  try simp only [Act.put, List.setIfInBounds_toArray, List.set_cons_zero, List.set_cons_succ]
                  refine wpAnyH_take (i := 32) (oi := { dst := some 102, op := Op.pick (Operand.tmp 91) (Operand.tmp 101) (Operand.const (Value.bool false)), type := 4, pos := "law.go:140", after := #[{ on := 21, ground := Ground.data }, { on := 31, ground := Ground.data }, { on := 13, ground := Ground.guard }], guard := some (13, false) }) (v := .bool false) rfl (by kernel_rfl) (by kernel_rfl) (by kernel_rfl) (fun _ _ _ h => h) (Or.inl ⟨by rfl, fun wS hSw => ?_⟩) (by assumption) ?_
                  · clear hHeld
                    clear hSw
                    go_simp
                  try simp only [Act.put, List.setIfInBounds_toArray, List.set_cons_zero, List.set_cons_succ]
                  refine wpAnyH_take (i := 33) (oi := { dst := some 103, op := Op.pick (Operand.tmp 83) (Operand.const (Value.bool true)) (Operand.tmp 102), type := 4, pos := "law.go:140", after := #[{ on := 13, ground := Ground.data }, { on := 32, ground := Ground.data }], guard := none }) (v := .bool false) rfl (by kernel_rfl) (by kernel_rfl) (by kernel_rfl) (fun _ _ _ h => h) (Or.inl ⟨by rfl, fun wS hSw => ?_⟩) (by assumption) ?_
                  · clear hHeld
                    clear hSw
                    go_simp
                  try simp only [Act.put, List.setIfInBounds_toArray, List.set_cons_zero, List.set_cons_succ]
                  have HC8 := hid HC.out.drew
                  have HA8 : Hid (w7.drew.ownsRow Bq 3 1 (.slice (some ⟨gq, 0, none⟩) N cl) N (nums l)) := HAl2.out
                  refine wpAnyH_done (by kernel_rfl) ?_ _
                  clear hHeld
                  go_wp2_with fail
                  go_roundw
                  case rel => first | exact ⟨j + 1, by go_num, by omega, HC8.out, HA8.out⟩ | ((repeat apply Exists.intro); exact ⟨⟨j + 1, by go_num, by omega, HC8.out, HA8.out⟩, rfl⟩)
                  case measure => simp [intOf]; omega

            · obtain rfl : j = N := by omega
              go_wp2_with fail
              go_roundw
              case rel => first | exact ⟨k + 1, by go_num, by omega, HC.out⟩ | ((repeat apply Exists.intro); exact ⟨⟨k + 1, by go_num, by omega, HC.out⟩, rfl⟩)
              case measure => simp [intOf]; omega
        · obtain rfl : k = 64 := by omega
          go_wp2_with fail
          refine (HAl.out _).mono ?_; rintro r w6 ⟨rfl, hb6⟩
          have HW6 := hid (HC.out.call hb6).bel
          clear hb6
          go_wp2_with fail
          go_ret
          exact ⟨rfl, HW6.out⟩

end Go.Proofs.Ytdicjnkbmlamgaa

namespace Go.Proofs.Ytdicjnkbmlamgaa.viewChanges
open Go.ChangeShapes Go.WideShapes Go.ChangeAt Go.RowKit
open Go.ChangeMaps (open_string shut_string)


theorem own : ownKnob Try.prog.godebug = none := by kernel_rfl
theorem laidOut : laidOutB Try.prog = true := by kernel_rfl
set_option maxRecDepth 100000 in
theorem contract (H : Type) (enc : TypeId × Value → H) (W : World) (base : Nat) (args : Array Value) (ds gs : List (DataW H)) (before : List MemPlace)
    (hval : ∀ (j : Nat) t v, Try.f6.params[j]? = some t → args[j]? = some v → Value.okWide Try.prog W .any base t v)
    (hW : DataW.Whole enc Try.prog Try.f6.params.toList Rows.viewChangesSpec.vars false W args.toList ds gs before) (hsz0 : (DataW.weightsEach Try.prog (Try.f6.params.toList ++ Rows.viewChangesSpec.plain.varTypes Try.prog) (ds ++ gs)).all (· ≤ reachBytes) = true) (_hL : laidMetH Try.prog listed W) :
    Calls Try.prog 6 args W fun e W' => ∃ v, e = .returned v ∧ Rows.viewChangesSpec.post enc Try.prog Try.f6 false true false false W args v W' := by
  have hW' := hW
  obtain ⟨p, q, hA0, hV, rfl, hfz, hnd⟩ := hW
  have hA : DataW.TrodAll enc Try.prog W 0 (fun _ => true) true Try.f6.params.toList args.toList ds p := hA0
  have hsz : (DataW.weightsEach Try.prog (Try.f6.params.toList ++ Rows.viewChangesSpec.plain.varTypes Try.prog) (ds ++ gs)).all (· ≤ reachBytes) = true := hsz0
  clear hsz0
  rw [Try.params6] at hA hval hsz
  obtain ⟨v0, vs0, d0, ds0, p0, q0, hargs, rfl, rfl, h0, r0⟩ := trodAll_cons hA
  obtain ⟨v1, vs1, d1, ds1, p1, q1, rfl, rfl, rfl, h1, r1⟩ := trodAll_cons r0
  obtain ⟨v2, vs2, d2, ds2, p2, q2, rfl, rfl, rfl, h2, r2⟩ := trodAll_cons r1
  obtain ⟨rfl, rfl, rfl⟩ := trodAll_nil r2
  obtain rfl : args = #[v0, v1, v2] := by cases args; simp_all
  obtain ⟨rfl, rfl⟩ := trodVars_none hV
  obtain ⟨cs0, rfl, hsz0, _⟩ : ∃ cs, v0 = .agg cs ∧ cs.size = Try.prog.cellsOf 26 ∧ Row.okWide Try.prog W .any base 26 cs := by
    have := hval 0 26 v0 rfl rfl
    simpa [Value.okWide, Try.underlying26] using this
  have k0 := h0
  have lt0 : ∀ x ∈ p0, x.block < W.heap.size := by obtain ⟨m, hm⟩ := k0; exact DataW.trod_lt m _ _ _ hm
  obtain ⟨fuel0, hf0⟩ := h0
  obtain ⟨se0, S0, ep0, hq0, _⟩ := open_bg hsz0 hf0
  obtain ⟨a1, len1, cap1, rfl⟩ := okWide_slice Try.underlying27 (hval 1 27 v1 rfl rfl)
  have k1 := h1
  have lt1 : ∀ x ∈ p1, x.block < W.heap.size := by obtain ⟨m, hm⟩ := k1; exact DataW.trod_lt m _ _ _ hm
  obtain ⟨l1, hl1, ho1, hn1⟩ : ∃ l : List OpV, l.length = len1 ∧ OpR W a1 l ∧ len1 ≤ 9223372036854775807 := by obtain ⟨m, hm⟩ := h1; exact open_vops hm
  obtain ⟨cs2, rfl, hsz2, _⟩ : ∃ cs, v2 = .agg cs ∧ cs.size = Try.prog.cellsOf 44 ∧ Row.okWide Try.prog W .any base 44 cs := by
    have := hval 2 44 v2 rfl rfl
    simpa [Value.okWide, Try.underlying44] using this
  have k2 := h2
  have lt2 : ∀ x ∈ p2, x.block < W.heap.size := by obtain ⟨m, hm⟩ := k2; exact DataW.trod_lt m _ _ _ hm
  obtain ⟨fuel2, hf2⟩ := h2
  obtain ⟨pk2, hq2, _, _⟩ := open_pk hsz2 hf2
  clear hA0
  have HC := changes_any se0 S0 ep0 a1 l1 len1 cap1 pk2 W hl1 ho1 hn1
  rw [← hq0, ← hq2] at HC
  refine HC.mono fun e W' ⟨he, bel⟩ => ?_
  subst he
  exact ⟨_, rfl, _, _, _, [], _, [], hW', trodAll_mk1 (shut_bool Try.underlying4 _), (trodAll_cons_mk (Below.trod laidOut (by kernel_rfl) (of_decide_eq_true (by kernel_rfl)) k0 bel lt0) (trodAll_cons_mk (Below.trod laidOut (by kernel_rfl) (of_decide_eq_true (by kernel_rfl)) k1 bel lt1) (trodAll_cons_mk (Below.trod laidOut (by kernel_rfl) (of_decide_eq_true (by kernel_rfl)) k2 bel lt2) trodAll_mk0))), rfl, bel.frame _, fun h => by cases h⟩
theorem reads (os : Os) {H : Type} (enc : TypeId × Value → H) : ∃ places, DataW.whole enc Try.prog ((laidWorld Try.prog os).forCall (fun _ _ => 0) ⟨#[], #[.agg zeroBg, .slice none 0 0, .agg zeroArg], []⟩).memory Try.f6.params.toList Rows.viewChangesSpec.vars false (#[.agg zeroBg, .slice none 0 0, .agg zeroArg] : Array Value).toList 8 = some ([zeroBgD, .nil, zeroDat], [], places) :=
  ⟨[], by kernel_rfl⟩

set_option maxRecDepth 100000 in
theorem lifted (os : Os) (started : os.Started) (H : Type) (enc : TypeId × Value → H) (F : Stop.Interp) :
    ReturnsInHanded {} Try.checked os 6 .any ((OpenSpec.ofChange Rows.viewChangesSpec).preRow enc Try.prog Try.f6 Rows.viewChangesRow.domain false Rows.viewChangesRow.laid) (((OpenSpec.ofChange Rows.viewChangesSpec).at F).post enc Try.prog Try.f6 false true false false) := by
  obtain ⟨places, hx⟩ := reads os enc
  refine returnsInHanded_of_row (C := Try.checked) (s := OpenSpec.ofChange Rows.viewChangesSpec) own started (by kernel_rfl) Try.func6
    (witness_row_at (enc := enc) (C := Try.checked) false (laidWorld Try.prog os) #[.agg zeroBg, .slice none 0 0, .agg zeroArg] rfl (by kernel_rfl) (by kernel_rfl) (by kernel_rfl)
      (OpenSpec.preRow_of_cond 8 hx (by kernel_rfl) (fun k hk => by cases hk) (by kernel_rfl) (laid_met os _))) ?_
  intro W base args ds gs before hval hW _ hcond hsz hL _ _
  exact contract H enc W base args ds gs before hval hW hsz hL

theorem said : Rows.ViewChangesSaid :=
  OpenClaim.holds_of_cond 6 Try.f6 rfl rfl rfl rfl rfl rfl rfl ⟨rfl, rfl, rfl, rfl, rfl⟩ rfl rfl rfl rfl rfl (by kernel_rfl) Try.func6 (by kernel_rfl)
    (of_decide_eq_true (by kernel_rfl)) (by unfold Func.isWrapper; first | (rw [if_pos (by decide +kernel)]; kernel_rfl) | (rw [if_neg (by decide +kernel)]; exact ⟨rfl, rfl⟩))
    (fun os started H enc _ F => by rw [OpenClaim.pre_eq_preRow]; exact lifted os started H enc F)


end Go.Proofs.Ytdicjnkbmlamgaa.viewChanges
namespace Go.Proofs.Ytdicjnkbmlamgaa
open Go
/-- THE STATEMENT -/
theorem viewChanges_holds : Rows.ViewChangesSaid := viewChanges.said
#print axioms viewChanges_holds
end Go.Proofs.Ytdicjnkbmlamgaa
