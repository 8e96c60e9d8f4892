/- Proved: whatever the begin, the script and the bytes, what is not a packet, or the node's own, changes nothing, and nothing goes out: the law BusIgnores returns true and leaves what came in as it was, where all that comes in holds together at most 1048576 values and letters; the listed variables are tied to the program's text. -/
import Derived.Test.YtbfllifgmlkndaaGreatDoorM50
import Derived.BigFrame
import Derived.Test.YtbfllifgmlkndaaGreatDoorCards
import Derived.Test.YtbfllifgmlkndaaGreatDoorTie
import Derived.Test.YtbfllifgmlkndaaGreatDoorM17
import Derived.ProofKit
import Derived.OpenShut
import Derived.ShutString
import Derived.ChangeMaps5
import Derived.ChangeOld
import Derived.RowKit
import Derived.Deep.DeepHandedRow
import Derived.SizedLaws
import Derived.Test.YtbfllifgmlkndaaGreatDoorM46
namespace Go.Proofs.YtbfllifgmlkndaaGreatDoor
open Go.RowKit Go.Shelf
open Slot

/-- two views, on the way -/
structure Tv (w wr : World) (c1 c2 : Nat) (u : Vw) : Prop where
  one : VB wr c1 u
  two : VB wr c2 u
  bel : Below w.heap.size w wr
theorem Tv.call {w wr w' : World} {c1 c2 : Nat} {u : Vw} (h : Tv w wr c1 c2 u) (hb : Below wr.heap.size wr w') : Tv w w' c1 c2 u :=
  ⟨h.one.below hb h.one.lt, h.two.below hb h.two.lt, h.bel.trans (hb.mono h.bel.size)⟩
set_option maxHeartbeats 8000000 in
set_option maxRecDepth 100000 in
theorem ign_any (self : Int) (S : Nat → Bool) (e : Nat) (a : Option Addr) (L : List OpB) (n c : Nat) (s : Bs) (w : World) (hE : Env w) (hn : L.length = n) (hL : OpsB w a L) (hS : ∀ o ∈ L, o.s.length ≤ 1048576) (hm : n ≤ 9223372036854775807) (hs : s.length ≤ 1048576) :
    Calls Tryz.prog 4 #[.agg (bbCells self S e), .slice a n c, .string ⟨s.toArray⟩] w fun e w' => e = .returned (.bool true) ∧ Below w.heap.size w w' := by
  have HB1 : Hid ((w.alloc (.cells (bbCells self S e) 26)).heap[w.heap.size]? = some (.cells (bbCells self S e) 26 (0, 0))) := heap_alloc_new w _
  have HW1 := hid (below_alloc w (.cells (bbCells self S e) 26))
  have HBc := hid (fun (W : World) (h : W.heap[w.heap.size]? = some (.cells (bbCells self S e) 26 (0, 0))) => bb_cells h)
  have iB := infoBB self S e
  have iC := infoBl (S := S)
  have HFe := hid (fun W (h : OpsB W a L) => fewb_any self S e a L n c W hn h hS hm)
  have HAl := hid (fun W (h : Env W) => balive_any W h)
  have HNo := hid (fun (q : Int) (h : newE self e = q) (hq : q ≠ 0) W => unew_no self e S q W h hq)
  have HYe : Hid (newE self e = 0 → ∃ s : Nat, self = (s : Int) ∧ s < 64 ∧ e ≤ 4611686018427387904) := fun h => newE_yes h
  have HNu := hid (fun (s : Nat) (hs : s < 64) (he : e ≤ 4611686018427387904) W (h : 7 ≤ W.heap.size) => unew_yes 7 s e S W h hs he)
  have HOk := hid (fun (s : Nat) (hs : s < 64) (he : e ≤ 4611686018427387904) => new_ok (self := s) (e := e) S hs he)
  have HMe : Hid (∀ s : Nat, (newV s S e).self = s) := fun _ => rfl
  have HDe := hid (fun W => rdecode_any s W hs)
  have HSl := hid hs
  have HE := hid hE
  have HL := hid hL
  have HN := hid hn
  have HS := hid hS
  obtain ⟨BC, hBC⟩ : ∃ C, bbCells self S e = C := ⟨_, rfl⟩
  rw [hBC] at HB1 HW1 HBc iB HFe ⊢
  obtain ⟨CS, hCS⟩ : ∃ C, cellsOf S = C := ⟨_, rfl⟩
  rw [hCS] at HBc iC HNo HNu
  obtain ⟨SB, hSB⟩ : ∃ S : ByteArray, ⟨s.toArray⟩ = S := ⟨_, rfl⟩
  have HSz : Hid (SB.size = s.length) := by show _ = _; rw [← hSB]; exact ba_size s
  have HTk := hid (fun b vb F v O W (hB : BB 7 W F b vb v O) (hE : Env W) (hOk : v.Ok 1000000) (hO : O.length ≤ 800000) => utake_any 7 b vb F v O s W hB hE (Nat.le_refl _) hOk hO (by omega))
  rw [hSB] at HTk HDe ⊢
  clear hBC hCS hE hL hn hS hSB hs
  go_enter Tryz.func4, Tryz.ntmps4
  go_upto_region 1 with fail
  generalize w.alloc (.cells BC 26) = w1 at *
  obtain ⟨k0, k1, k2⟩ := HBc.out _ HB1.out
  by_cases hne : newE self e = 0
  · obtain ⟨s0, rfl, hs, he⟩ := HYe.out hne
    have HNu1 := hid (HNu.out s0 hs he)
    have HOk0 := hid (HOk.out s0 hs he)
    have HMe0 := hid (HMe.out s0)
    obtain ⟨v0, hv⟩ : ∃ v, newV s0 S e = v := ⟨_, rfl⟩
    rw [hv] at HNu1 HOk0 HMe0
    clear HNu HOk HMe HNo HYe hne hv hs he
    go_wp2_with (refine wpList_load_mid rfl 24 _ rfl w.heap.size 1 rfl _ _ k1 Tryz.underlying24 rfl iC ?_; rw [Array.toArray_toList])
    refine (HNu1.out _ (Nat.le_trans HE.out.room HW1.out.size)).mono ?_; rintro r w2 ⟨b, vb, F0, rfl, hB, hF, hb⟩
    obtain ⟨F, hA⟩ := ba_new hB (fun x hx => Nat.le_trans HW1.out.size (hF x hx)) (HW1.out.trans (hb.mono HW1.out.size)) HOk0.out HMe0.out
    have HA2 := hid hA
    have HBg2 := hid ((hb.block _ (Array.getElem?_eq_some_iff.1 HB1.out).1).trans HB1.out)
    clear hA hB hF hb k0 k1 k2 HNu1 HB1 HOk0 HMe0
    go_wp2_with (refine wpList_load_want rfl 26 _ rfl w.heap.size rfl 26 _ (0, 0) _ HBg2.out Tryz.underlying26 rfl iB ?_)
    refine (HFe.out w2 (HL.out.below HA2.out.bel (Nat.le_refl _))).mono ?_; rintro r w3 ⟨Bq, rfl, hBq, hb⟩
    have HA3 := hid (HA2.out.call hb)
    have HBg3 := hid ((hb.block _ (Array.getElem?_eq_some_iff.1 HBg2.out).1).trans HBg2.out)
    have HQ := hid hBq
    clear hb hBq HA2 HBg2 HFe
    cases Bq with
    | false =>
      go_wp2_with fail
      refine (HAl.out w3 (HE.out.below HA3.out.bel HE.out.room)).mono ?_; rintro r wz ⟨rfl, hbz⟩
      have HWz := hid ((HA3.out.bel).trans (hbz.mono (HA3.out.bel).size))
      clear hbz
      go_wp2_with fail
      go_ret
      exact ⟨rfl, HWz.out⟩
    | true =>
      by_cases h2k : 20000 < SB.size
      · have hz1 : (20000 : Int) < (SB.size : Int) := by omega
        go_wp2_with fail
        refine (HAl.out w3 (HE.out.below HA3.out.bel HE.out.room)).mono ?_; rintro r wz ⟨rfl, hbz⟩
        have HWz := hid ((HA3.out.bel).trans (hbz.mono (HA3.out.bel).size))
        clear hbz
        go_wp2_with fail
        go_ret
        exact ⟨rfl, HWz.out⟩
      have hz1 : ¬ (20000 : Int) < (SB.size : Int) := by omega
      have hz2 : (SB.size : Int) ≤ 20000 := by omega
      have hn40 : (n : Int) ≤ 40 := by have := (HQ.out rfl).1; have := HN.out; omega
      clear HQ
      go_wp2_with fail
      go_loopw [47] (fun i wr => ∃ k : Nat, k ≤ n ∧ i = .int .i64 k ∧ Hid (∃ F v O, Ba w wr b vb s0 F v O k) ∧ Hid (wr.heap[w.heap.size]? = some (.cells BC 26 (0, 0)))) (fun i _ => n - (intOf i).toNat)
      case atStart => exact ⟨0, by omega, rfl, ⟨F, v0, [], HA3.out⟩, HBg3.out⟩
      case round =>
        clear HA3 HBg3
        obtain ⟨k, hk, rfl, HX, HBg⟩ := hrel
        obtain ⟨Fk, vk, Ok, hAk⟩ := HX.out
        have HAk := hid hAk
        clear HX hAk
        by_cases hlt : k < n
        · have hkz : (k : Int) < (n : Int) := by omega
          have hkL : k < L.length := by have := HN.out; omega
          obtain ⟨ob, oo, rfl, hbl, h1⟩ := HL.out (fun e => by rw [e] at hkL; exact absurd hkL (Nat.not_lt_zero _))
          obtain ⟨op, hop⟩ : ∃ op, L[k] = op := ⟨_, rfl⟩
          have g0 := h1 k hkL
          rw [hop] at g0
          have HSo : Hid (op.s.length ≤ 1048576) := HS.out op (by rw [← hop]; exact List.getElem_mem hkL)
          have HG : Hid (wr.rangeAt ob (oo + k * 5) (opbCells op).toList) := fun j v hv => by
            rw [HAk.out.bel.cell (p := ⟨ob, oo + k * 5 + j, none⟩) hbl]; exact g0 j v hv
          have iO := infoOpbl op
          have iO2 := infoOpb op
          have oO := opbCells_one op
          have hta : (opbCells op).toList.toArray = opbCells op := Array.toArray_toList
          have zO : (#[.int .i64 0, .int .i64 0, .int .i64 0, .int .u64 0, .string ⟨#[]⟩] : Array Value).size = (opbCells op).size := rfl
          have HZ7 := hid (heap_alloc_new wr (.cells #[.int .i64 0, .int .i64 0, .int .i64 0, .int .u64 0, .string ⟨#[]⟩] 43))
          have hb7 := below_setRow (g := wr.heap.size) (below_alloc wr (.cells #[.int .i64 0, .int .i64 0, .int .i64 0, .int .u64 0, .string ⟨#[]⟩] 43)) (Nat.le_refl _) (opbCells op)
          have HO7 := hid (setRow_heap _ _ _ (opbCells op) _ _ HZ7.out)
          have HA7 := hid (HAk.out.call hb7)
          have HBg7 := hid ((hb7.block _ (Array.getElem?_eq_some_iff.1 HBg.out).1).trans HBg.out)
          have HDo := hid (fun g W (h : Dk 7 b vb Fk vk Ok 0 g 0 vZ (.slice none 0 0) [] W) => does_any 7 b vb Fk vk Ok 0 g 64 0 vZ (.slice none 0 0) [] op W h HSo.out (.inr rfl))
          obtain ⟨OC, hOC⟩ : ∃ C, opbCells op = C := ⟨_, rfl⟩
          rw [hOC] at HG iO iO2 oO hta zO HO7 HA7 HBg7 HDo
          clear h1 g0 hop hkL hOC hb7 HAk HBg
          go_upto_region 7 with (first | (refine wpList_load_mid rfl 43 _ rfl ob (oo + k * 5) rfl _ _ HG.out Tryz.underlying43 rfl iO ?_; rw [hta]) | (refine wpList_store_row rfl 43 _ _ rfl wr.heap.size OC rfl rfl 43 _ HZ7.out iO2 zO oO ?_))
          clear HZ7 HG oO hta zO iO2
          generalize (wr.alloc (.cells #[.int .i64 0, .int .i64 0, .int .i64 0, .int .u64 0, .string ⟨#[]⟩] 43)).setRow wr.heap.size OC = w7 at *
          generalize wr.heap.size = xo at *
          have HSr : Hid (∀ W : World, W.heap[xo]? = some (.cells OC 43 (0, 0)) → W.rangeAt xo 0 OC.toList) := fun W h => row_range h
          have hs0 := HSr.out w7 HO7.out
          refine wp_region_held_drew (S := fun W => W.rangeAt xo 0 OC.toList) (by kernel_rfl) hs0 (fun hHeld => ?_)
          clear hs0
          have u43 := Tryz.underlying43
          refine wpAnyH_take (i := 0) (oi := { dst := some 51, op := Op.move (Operand.tmp 7), type := 28, pos := "law.go:133", after := #[], guard := none }) (v := .pointer (some ⟨b, 0, none⟩)) rfl (by kernel_rfl) (by kernel_rfl) (by kernel_rfl) (fun _ _ _ h => h) (Or.inl ⟨by rfl, fun wS hSw => ?_⟩) (by assumption) ?_
          · clear hHeld
            clear hSw
            go_simp
          try simp only [Act.put, List.setIfInBounds_toArray, List.set_cons_zero, List.set_cons_succ]
          refine wpAnyH_take (i := 4) (oi := { dst := some 55, op := Op.load 43 (Operand.tmp 10), type := 43, pos := "law.go:133", after := #[], guard := none }) (v := .agg OC) rfl (by kernel_rfl) (by kernel_rfl) (by kernel_rfl) (fun _ _ _ h => h) (yieldsIf_load_arr Array.toArray_toList (by rfl) _ _ rfl _ _ rfl (fun _ h => h) u43 rfl iO) (by assumption) ?_
          try simp only [Act.put, List.setIfInBounds_toArray, List.set_cons_zero, List.set_cons_succ]
          refine wpAnyH_ready (rs := [1]) (by kernel_rfl) (by simp) ?_
          refine AllReadyH.cons (o := { dst := some 52, op := Op.makeSlice 32 (Operand.const (Value.int IntKind.i64 64)) (Operand.const (Value.int IntKind.i64 64)), type := 32, pos := "law.go:133", after := #[], guard := none }) rfl (fun K hK => ?_) AllReadyH.nil
          clear hHeld
          rw [if_pos (by rfl)]
          refine wp_mkNodes rfl ?_
          have hb8 := below_alloc w7.drew (.cells madeN 79)
          have HN8 := hid (nd_made w7.drew)
          have HA8 := hid (HA7.out.drew.call hb8)
          have HO8 : Hid ((w7.drew.alloc (.cells madeN 79)).heap[xo]? = some (.cells OC 43 (0, 0))) := (hb8.block xo (Array.getElem?_eq_some_iff.1 HO7.out).1).trans HO7.out
          have HBg8 : Hid ((w7.drew.alloc (.cells madeN 79)).heap[w.heap.size]? = some (.cells BC 26 (0, 0))) := (hb8.block w.heap.size (Array.getElem?_eq_some_iff.1 HBg7.out).1).trans HBg7.out
          clear hb8 HA7 HO7 HBg7
          refine hK.out _ _ (HSr.out _ HO8.out) (fun hHeld => ?_)
          clear hK K
          try simp only [Act.put, List.setIfInBounds_toArray, List.set_cons_zero, List.set_cons_succ]
          generalize w7.drew.alloc (.cells madeN 79) = w8 at *
          generalize w7.drew.heap.size = g8 at *
          have hrv := built_rv g8
          have hrb := built_rb 0 g8 64 0
          have HDk := hid (HDo.out g8 w8 (HA8.out.dk HE.out (by omega) HN8.out))
          have hz0 : vZ.cur = 0 := rfl
          rw [hz0] at HDk
          obtain ⟨RV, hRV⟩ : ∃ C, rvc 0 g8 64 0 = C := ⟨_, rfl⟩
          rw [hRV] at hrv hrb
          obtain ⟨RC, hRC⟩ : ∃ C, rbc 0 g8 64 0 (.slice none 0 0) = C := ⟨_, rfl⟩
          rw [hRC] at hrb HDk
          clear hRV hRC hz0 HDo
          refine wpAnyH_ready (rs := [2]) (by kernel_rfl) (by simp) ?_
          refine AllReadyH.cons (o := { dst := some 53, op := Op.build 34 #[(1, Operand.tmp 52)], type := 34, pos := "law.go:133", after := #[{ on := 1, ground := Ground.data }], guard := none }) rfl (fun K hK => ?_) AllReadyH.nil
          have hs := hid hHeld
          clear hHeld
          rw [if_pos (by rfl)]
          refine wp_buildRV _ rfl (.slice (some ⟨g8, 0, none⟩) 64 64) RV hrv rfl ?_
          refine hK.out _ _ (HSr.out _ HO8.out) (fun hHeld => ?_)
          clear hK K hs
          try simp only [Act.put, List.setIfInBounds_toArray, List.set_cons_zero, List.set_cons_succ]
          refine wpAnyH_ready (rs := [3]) (by kernel_rfl) (by simp) ?_
          refine AllReadyH.cons (o := { dst := some 54, op := Op.build 41 #[(0, Operand.tmp 53)], type := 41, pos := "law.go:133", after := #[{ on := 2, ground := Ground.data }], guard := none }) rfl (fun K hK => ?_) AllReadyH.nil
          have hs := hid hHeld
          clear hHeld
          rw [if_pos (by rfl)]
          refine wp_buildRB _ rfl RV RC hrb rfl ?_
          refine hK.out _ _ (HSr.out _ HO8.out) (fun hHeld => ?_)
          clear hK K hs
          try simp only [Act.put, List.setIfInBounds_toArray, List.set_cons_zero, List.set_cons_succ]
          refine wpAnyH_ready (rs := [5]) (by kernel_rfl) (by simp) ?_
          refine AllReadyH.cons (o := { dst := some 56, op := Op.call { callee := Callee.value (Operand.func 11), args := #[Operand.tmp 51, Operand.tmp 54, Operand.tmp 55], argTypes := #[28, 41, 43] }, type := 44, pos := "law.go:133", after := #[{ on := 0, ground := Ground.data }, { on := 3, ground := Ground.data }, { on := 4, ground := Ground.data }], guard := none }) rfl (fun K hK => ?_) AllReadyH.nil
          clear hHeld
          go_simp
          refine HDk.out.mono ?_; rintro r w9 hd
          obtain ⟨⟨x, rfl⟩, F9, v9, O9, hA9, hK9⟩ := HA8.out.does hd
          have HA9 := hid hA9
          have HO9 := hid ((hK9.block xo (Array.getElem?_eq_some_iff.1 HO8.out).1 (HA8.out.ty.not HO8.out (by decide) (by decide) (by decide))).trans HO8.out)
          have HBg9 := hid ((hK9.block w.heap.size (Array.getElem?_eq_some_iff.1 HBg8.out).1 (HA8.out.ty.not HBg8.out (by decide) (by decide) (by decide))).trans HBg8.out)
          clear hd hA9 hK9 HA8 HO8 HBg8 HDk
          go_wp2_with fail
          refine hK.out _ _ (HSr.out _ HO9.out) (fun hHeld => ?_)
          clear hK K
          try simp only [Act.put, List.setIfInBounds_toArray, List.set_cons_zero, List.set_cons_succ]
          refine wpAnyH_done (by kernel_rfl) ?_ _
          clear hHeld
          go_wp2_with fail
          go_roundw
          case rel => exact ⟨k + 1, by omega, by go_num, ⟨F9, v9, O9, HA9.out⟩, HBg9.out⟩
          case measure => simp [intOf]; omega
        · obtain rfl : k = n := by omega
          have hvs := HAk.out.me_
          have HT : Hid (bTake vk s = (decide (decE s = 0) && decide ((decPk s).frm ≠ (s0 : Int)))) := by
            show _ = _
            unfold bTake
            rw [hvs]
          have iP := infoPk (decPk s)
          have oP := onePk (decPk s)
          have zP : Tryz.zeroCells53.size = (pkCells (decPk s)).size := by rw [pkCells_size]; exact zsize
          have HPb : Hid (∀ W b, W.heap[b]? = some (.cells (pkCells (decPk s)) 53 (0, 0)) → PBox W b (decPk s)) := fun W b h => h
          obtain ⟨FR, hFR⟩ : ∃ f, (decPk s).frm = f := ⟨_, rfl⟩
          have HFR := hid hFR
          rw [hFR] at HT
          obtain ⟨DE, hDE⟩ : ∃ x, decE s = x := ⟨_, rfl⟩
          obtain ⟨PC, hPC⟩ : ∃ C, pkCells (decPk s) = C := ⟨_, rfl⟩
          rw [hPC] at HDe iP oP zP HPb
          rw [hDE] at HDe HT
          clear hvs hFR hDE hPC
          go_wp2_with fail
          refine (HDe.out _).mono ?_; rintro r wa ⟨rfl, hb⟩
          have HAa := hid (HAk.out.call hb)
          have HBga := hid ((hb.block _ (Array.getElem?_eq_some_iff.1 HBg.out).1).trans HBg.out)
          have HZa := hid (heap_alloc_new wa (.cells Tryz.zeroCells53 53))
          have hb2 := below_setRow (g := wa.heap.size) (below_alloc wa (.cells Tryz.zeroCells53 53)) (Nat.le_refl _) PC
          have HPc := hid (HPb.out _ _ (setRow_heap _ _ _ PC _ _ HZa.out))
          have HAc := hid (HAa.out.call hb2)
          have HBgc := hid ((hb2.block _ (Array.getElem?_eq_some_iff.1 HBga.out).1).trans HBga.out)
          clear hb hb2 HAk HBg HAa HBga HPb HDe
          go_upto_region 10 with (refine wpList_store_row rfl 53 _ _ rfl wa.heap.size PC rfl rfl 53 _ HZa.out iP zP oP ?_)
          clear HZa iP zP oP
          generalize (wa.alloc (.cells Tryz.zeroCells53 53)).setRow wa.heap.size PC = wc at *
          generalize wa.heap.size = pb at *
          obtain ⟨-, p1, -, -, -⟩ := HPc.out.cells
          rw [HFR.out] at p1
          obtain ⟨m0, -, -⟩ := HBc.out _ HBgc.out
          clear HPc HFR
          by_cases hD : DE = 0
          · subst hD
            by_cases hF : FR = (s0 : Int)
            · subst hF
              have HNo : Hid (bTake vk s = false) := by show _ = _; rw [HT.out]; simp
              go_wp2_with fail
              clear p1 m0 HT
              refine (uouts_any 7 b vb Fk vk Ok _ HAc.out.bus).mono ?_; rintro r wd ⟨ad, cd, rfl, ho, hx, Fx, hB, hK, hx2⟩
              obtain ⟨Fd, hA, hK2, hls⟩ := HAc.out.step (v' := vk) hB hK (HAc.out.ok.mono (by omega)) rfl (by simp)
              have HAd := hid hA
              have HKd := hid hK2
              have HOd := hid ((ou_new HAc.out.bus hK ho hx hx2).less hls)
              clear ho hx hB hK hx2 hA hK2 hls
              go_wp2_with fail
              refine (uview_any 7 b vb Fd vk [] wd HAd.out.bus).mono ?_; rintro r we ⟨c1, rfl, hv, hc1, hb⟩
              have HV1 := hid hv
              have HAe := hid (HAd.out.call hb)
              have HC1 : Hid (¬ Fd c1) := fun c => by have := HAd.out.bus.lt c1 c; omega
              clear hv hb hc1 HAd HKd HOd
              obtain ⟨q1, q2⟩ := bTake_no HNo.out
              have HTe := hid (HTk.out b vb Fd vk [] we HAe.out.bus (HE.out.below HAe.out.bel HE.out.room) (HAe.out.ok.mono (by omega)) (by simp))
              rw [q1, q2, HNo.out] at HTe
              clear q1 q2 HNo
              go_wp2_with fail
              refine HTe.out.mono ?_; rintro r wf ⟨rfl, Fx, hB, hK⟩
              obtain ⟨Ff, hA, hK2, -⟩ := HAe.out.step (O' := ([] : List (Int × Bs))) hB hK (HAe.out.ok.mono (by omega)) rfl (by simp)
              have HAf := hid hA
              have HV1f := hid (vb_kp HV1.out hK2 HC1.out)
              have HC1f : Hid (¬ Ff c1) := fun c => (hK2.foot c1 c).elim HC1.out (fun d => by have := HV1.out.lt; omega)
              clear hB hK hA hK2 HTe HAe HV1 HC1
              go_wp2_with fail
              refine (uview_any 7 b vb Ff vk [] wf HAf.out.bus).mono ?_; rintro r wg ⟨c2, rfl, hv, hc2, hb⟩
              have HV2 := hid hv
              have HV1g := hid (HV1f.out.below hb HV1f.out.lt)
              have HAg := hid (HAf.out.call hb)
              have HC2 : Hid (¬ Ff c2) := fun c => by have := HAf.out.bus.lt c2 c; omega
              clear hv hb hc2 HAf HV1f
              go_wp2_with fail
              refine (uouts_any 7 b vb Ff vk [] _ HAg.out.bus).mono ?_; rintro r wh ⟨ah, ch, rfl, ho, hx, Fx, hB, hK, hx2⟩
              obtain ⟨Fh, hA, hK2, hls⟩ := HAg.out.step (v' := vk) hB hK (HAg.out.ok.mono (by omega)) rfl (by simp)
              have HAh := hid hA
              have HKh := hid hK2
              have HOh := hid ((ou_new HAg.out.bus hK ho hx hx2).less hls)
              clear ho hx hB hK hx2 hA hK2 hls
              have HV1h := hid (vb_kp HV1g.out HKh.out HC1f.out)
              have HV2h := hid (vb_kp HV2.out HKh.out HC2.out)
              have HTv := hid (show Tv w wh c1 c2 vk from ⟨HV1h.out, HV2h.out, HAh.out.bel⟩)
              have HCb := hid (current_any c1 vk wh HV1h.out)
              have HCc := hid (current_any c2 vk wh HV2h.out)
              obtain ⟨cu, hcu⟩ : ∃ x, vk.cur = x := ⟨_, rfl⟩
              rw [hcu] at HCb HCc
              have hcc : ((cu : Int) != (cu : Int)) = false := by simp
              have hl0 : ([] : List (Int × Bs)).length = 0 := rfl
              rw [hl0]
              clear hcu HV1g HV2 HC1f HC2 HAg HKh HOh HAh HV1h HV2h
              go_wp2_with fail
              refine HCb.out.mono ?_; rintro r wy ⟨rfl, rfl⟩
              go_wp2_with fail
              refine HCc.out.mono ?_; rintro r wy ⟨rfl, rfl⟩
              obtain ⟨u, hu⟩ : ∃ u, vk = u := ⟨_, rfl⟩
              rw [hu] at HTv
              clear hu HCb HCc
              go_wp2_with fail
              go_loopw [104] (fun i wr => ∃ k : Nat, i = .int .i64 (k : Int) ∧ k ≤ 64 ∧ Hid (Tv w wr c1 c2 u)) (fun i _ => 64 - (intOf i).toNat)
              case atStart => exact ⟨0, rfl, Nat.zero_le _, HTv.out⟩
              case round =>
                clear HTv
                obtain ⟨q, rfl, hq, HT⟩ := hrel
                by_cases hlt : q < 64
                · have hkz : (q : Int) < 64 := by omega
                  have HEb := hid (epoch_any c1 u (q : Int) _ HT.out.one)
                  have HEc := hid (epoch_any c2 u (q : Int) _ HT.out.two)
                  have HClb := hid (fun W h => claims_any c1 u (q : Int) W h)
                  have HClc := hid (fun W h => claims_any c2 u (q : Int) W h)
                  have heq := fun w => eq_bits (clsI u (q : Int)) (clsI u (q : Int)) w
                  rw [(sameB_iff _ _).2 (fun _ _ => rfl)] at heq
                  obtain ⟨y, hy⟩ : ∃ y, epI u (q : Int) = y := ⟨_, rfl⟩
                  obtain ⟨CX, hCX⟩ : ∃ x, cellsOf (clsI u (q : Int)) = x := ⟨_, rfl⟩
                  rw [hy] at HEb HEc
                  rw [hCX] at HClb HClc heq
                  have hyy : ((y : Int) != (y : Int)) = false := by simp
                  clear hy hCX
                  go_wp2_with fail
                  refine HEb.out.mono ?_; rintro r w8 ⟨rfl, rfl⟩
                  go_wp2_with fail
                  refine HEc.out.mono ?_; rintro r w8 ⟨rfl, rfl⟩
                  go_wp2_with fail
                  refine (HClb.out _ HT.out.one).mono ?_; rintro r w9 ⟨rfl, hb9⟩
                  have HT9 := hid (HT.out.call hb9)
                  clear hb9
                  go_wp2_with fail
                  refine (HClc.out _ HT9.out.two).mono ?_; rintro r wA ⟨rfl, hbA⟩
                  have HTA := hid (HT9.out.call hbA)
                  clear hbA
                  go_wp2_with fail
                  go_roundw
                  case rel => exact ⟨q + 1, by go_num, by omega, HTA.out⟩
                  case measure => simp [intOf]; omega
                · obtain rfl : q = 64 := by omega
                  go_wp2_with fail
                  refine (HAl.out _ (HE.out.below HT.out.bel HE.out.room)).mono ?_; rintro r wz ⟨rfl, hbz⟩
                  have HWz := hid ((HT.out.bel).trans (hbz.mono (HT.out.bel).size))
                  clear hbz
                  go_wp2_with fail
                  go_ret
                  exact ⟨rfl, HWz.out⟩
            · have hFb : (FR != (s0 : Int)) = true := bne_iff_ne.2 hF
              clear HT
              go_wp2_with fail
              refine (HAl.out _ (HE.out.below HAc.out.bel HE.out.room)).mono ?_; rintro r wz ⟨rfl, hbz⟩
              have HWz := hid ((HAc.out.bel).trans (hbz.mono (HAc.out.bel).size))
              clear hbz
              go_wp2_with fail
              go_ret
              exact ⟨rfl, HWz.out⟩
          · have hDb : (DE == (0 : Int)) = false := beq_eq_false_iff_ne.2 hD
            have HNo : Hid (bTake vk s = false) := by show _ = _; rw [HT.out]; rw [decide_eq_false hD]; rfl
            go_wp2_with fail
            clear p1 m0 HT
            refine (uouts_any 7 b vb Fk vk Ok _ HAc.out.bus).mono ?_; rintro r wd ⟨ad, cd, rfl, ho, hx, Fx, hB, hK, hx2⟩
            obtain ⟨Fd, hA, hK2, hls⟩ := HAc.out.step (v' := vk) hB hK (HAc.out.ok.mono (by omega)) rfl (by simp)
            have HAd := hid hA
            have HKd := hid hK2
            have HOd := hid ((ou_new HAc.out.bus hK ho hx hx2).less hls)
            clear ho hx hB hK hx2 hA hK2 hls
            go_wp2_with fail
            refine (uview_any 7 b vb Fd vk [] wd HAd.out.bus).mono ?_; rintro r we ⟨c1, rfl, hv, hc1, hb⟩
            have HV1 := hid hv
            have HAe := hid (HAd.out.call hb)
            have HC1 : Hid (¬ Fd c1) := fun c => by have := HAd.out.bus.lt c1 c; omega
            clear hv hb hc1 HAd HKd HOd
            obtain ⟨q1, q2⟩ := bTake_no HNo.out
            have HTe := hid (HTk.out b vb Fd vk [] we HAe.out.bus (HE.out.below HAe.out.bel HE.out.room) (HAe.out.ok.mono (by omega)) (by simp))
            rw [q1, q2, HNo.out] at HTe
            clear q1 q2 HNo
            go_wp2_with fail
            refine HTe.out.mono ?_; rintro r wf ⟨rfl, Fx, hB, hK⟩
            obtain ⟨Ff, hA, hK2, -⟩ := HAe.out.step (O' := ([] : List (Int × Bs))) hB hK (HAe.out.ok.mono (by omega)) rfl (by simp)
            have HAf := hid hA
            have HV1f := hid (vb_kp HV1.out hK2 HC1.out)
            have HC1f : Hid (¬ Ff c1) := fun c => (hK2.foot c1 c).elim HC1.out (fun d => by have := HV1.out.lt; omega)
            clear hB hK hA hK2 HTe HAe HV1 HC1
            go_wp2_with fail
            refine (uview_any 7 b vb Ff vk [] wf HAf.out.bus).mono ?_; rintro r wg ⟨c2, rfl, hv, hc2, hb⟩
            have HV2 := hid hv
            have HV1g := hid (HV1f.out.below hb HV1f.out.lt)
            have HAg := hid (HAf.out.call hb)
            have HC2 : Hid (¬ Ff c2) := fun c => by have := HAf.out.bus.lt c2 c; omega
            clear hv hb hc2 HAf HV1f
            go_wp2_with fail
            refine (uouts_any 7 b vb Ff vk [] _ HAg.out.bus).mono ?_; rintro r wh ⟨ah, ch, rfl, ho, hx, Fx, hB, hK, hx2⟩
            obtain ⟨Fh, hA, hK2, hls⟩ := HAg.out.step (v' := vk) hB hK (HAg.out.ok.mono (by omega)) rfl (by simp)
            have HAh := hid hA
            have HKh := hid hK2
            have HOh := hid ((ou_new HAg.out.bus hK ho hx hx2).less hls)
            clear ho hx hB hK hx2 hA hK2 hls
            have HV1h := hid (vb_kp HV1g.out HKh.out HC1f.out)
            have HV2h := hid (vb_kp HV2.out HKh.out HC2.out)
            have HTv := hid (show Tv w wh c1 c2 vk from ⟨HV1h.out, HV2h.out, HAh.out.bel⟩)
            have HCb := hid (current_any c1 vk wh HV1h.out)
            have HCc := hid (current_any c2 vk wh HV2h.out)
            obtain ⟨cu, hcu⟩ : ∃ x, vk.cur = x := ⟨_, rfl⟩
            rw [hcu] at HCb HCc
            have hcc : ((cu : Int) != (cu : Int)) = false := by simp
            have hl0 : ([] : List (Int × Bs)).length = 0 := rfl
            rw [hl0]
            clear hcu HV1g HV2 HC1f HC2 HAg HKh HOh HAh HV1h HV2h
            go_wp2_with fail
            refine HCb.out.mono ?_; rintro r wy ⟨rfl, rfl⟩
            go_wp2_with fail
            refine HCc.out.mono ?_; rintro r wy ⟨rfl, rfl⟩
            obtain ⟨u, hu⟩ : ∃ u, vk = u := ⟨_, rfl⟩
            rw [hu] at HTv
            clear hu HCb HCc
            go_wp2_with fail
            go_loopw [104] (fun i wr => ∃ k : Nat, i = .int .i64 (k : Int) ∧ k ≤ 64 ∧ Hid (Tv w wr c1 c2 u)) (fun i _ => 64 - (intOf i).toNat)
            case atStart => exact ⟨0, rfl, Nat.zero_le _, HTv.out⟩
            case round =>
              clear HTv
              obtain ⟨q, rfl, hq, HT⟩ := hrel
              by_cases hlt : q < 64
              · have hkz : (q : Int) < 64 := by omega
                have HEb := hid (epoch_any c1 u (q : Int) _ HT.out.one)
                have HEc := hid (epoch_any c2 u (q : Int) _ HT.out.two)
                have HClb := hid (fun W h => claims_any c1 u (q : Int) W h)
                have HClc := hid (fun W h => claims_any c2 u (q : Int) W h)
                have heq := fun w => eq_bits (clsI u (q : Int)) (clsI u (q : Int)) w
                rw [(sameB_iff _ _).2 (fun _ _ => rfl)] at heq
                obtain ⟨y, hy⟩ : ∃ y, epI u (q : Int) = y := ⟨_, rfl⟩
                obtain ⟨CX, hCX⟩ : ∃ x, cellsOf (clsI u (q : Int)) = x := ⟨_, rfl⟩
                rw [hy] at HEb HEc
                rw [hCX] at HClb HClc heq
                have hyy : ((y : Int) != (y : Int)) = false := by simp
                clear hy hCX
                go_wp2_with fail
                refine HEb.out.mono ?_; rintro r w8 ⟨rfl, rfl⟩
                go_wp2_with fail
                refine HEc.out.mono ?_; rintro r w8 ⟨rfl, rfl⟩
                go_wp2_with fail
                refine (HClb.out _ HT.out.one).mono ?_; rintro r w9 ⟨rfl, hb9⟩
                have HT9 := hid (HT.out.call hb9)
                clear hb9
                go_wp2_with fail
                refine (HClc.out _ HT9.out.two).mono ?_; rintro r wA ⟨rfl, hbA⟩
                have HTA := hid (HT9.out.call hbA)
                clear hbA
                go_wp2_with fail
                go_roundw
                case rel => exact ⟨q + 1, by go_num, by omega, HTA.out⟩
                case measure => simp [intOf]; omega
              · obtain rfl : q = 64 := by omega
                go_wp2_with fail
                refine (HAl.out _ (HE.out.below HT.out.bel HE.out.room)).mono ?_; rintro r wz ⟨rfl, hbz⟩
                have HWz := hid ((HT.out.bel).trans (hbz.mono (HT.out.bel).size))
                clear hbz
                go_wp2_with fail
                go_ret
                exact ⟨rfl, HWz.out⟩
  · have HNo1 := hid (HNo.out _ rfl hne)
    have hc0 : (newE self e != 0) = true := bne_iff_ne.2 hne
    obtain ⟨q, hq⟩ : ∃ q, newE self e = q := ⟨_, rfl⟩
    rw [hq] at HNo1 hc0
    clear HNo HNu HOk HMe HYe hne hq HFe
    go_wp2_with (refine wpList_load_mid rfl 24 _ rfl w.heap.size 1 rfl _ _ k1 Tryz.underlying24 rfl iC ?_; rw [Array.toArray_toList])
    refine (HNo1.out _).mono ?_; rintro r w2 ⟨rfl, hb⟩
    have HW2 := hid (HW1.out.trans (hb.mono HW1.out.size))
    clear hb k0 k1 k2
    go_wp2_with fail
    refine (HAl.out _ (HE.out.below HW2.out HE.out.room)).mono ?_; rintro r wz ⟨rfl, hbz⟩
    have HWz := hid ((HW2.out).trans (hbz.mono (HW2.out).size))
    clear hbz
    go_wp2_with fail
    go_ret
    exact ⟨rfl, HWz.out⟩

end Go.Proofs.YtbfllifgmlkndaaGreatDoor

namespace Go.Proofs.YtbfllifgmlkndaaGreatDoor.busIgnores
open Go.ChangeShapes Go.WideShapes Go.ChangeAt Go.RowKit
open Go.ChangeMaps (open_string shut_string)
open Slot

theorem own : ownKnob Tryz.prog.godebug = none := by kernel_rfl
theorem laidOut : laidOutB Tryz.prog = true := by kernel_rfl
set_option maxHeartbeats 4000000 in
set_option maxRecDepth 100000 in
theorem contract (H : Type) (enc : TypeId × Value → H) (W : World) (base : Nat) (args : Array Value) (ds gs : List (DataW H)) (before : List MemPlace)
    (hval : ∀ (j : Nat) t v, Tryz.f4.params[j]? = some t → args[j]? = some v → Value.okWide Tryz.prog W .any base t v)
    (hW : DataW.Whole enc Tryz.prog Tryz.f4.params.toList Rows.busIgnoresSpec.vars false W args.toList ds gs before) (hsz0 : (DataW.weightsEach Tryz.prog (Tryz.f4.params.toList ++ Rows.busIgnoresSpec.plain.varTypes Tryz.prog) (ds ++ gs)).all (· ≤ reachBytes) = true) (hL : laidMetH Tryz.prog listed W) (hk : Rows.uptoSmall H (ds ++ gs) = true) :
    Calls Tryz.prog 4 args W fun e W' => ∃ v, e = .returned v ∧ Rows.busIgnoresSpec.post enc Tryz.prog Tryz.f4 false true false false W args v W' := by
  have hW' := hW
  obtain ⟨p, q, hA0, hV, rfl, hfz, hnd⟩ := hW
  have hA : DataW.TrodAll enc Tryz.prog W 0 (fun _ => true) true Tryz.f4.params.toList args.toList ds p := hA0
  have hsz : (DataW.weightsEach Tryz.prog (Tryz.f4.params.toList ++ Rows.busIgnoresSpec.plain.varTypes Tryz.prog) (ds ++ gs)).all (· ≤ reachBytes) = true := hsz0
  clear hsz0
  rw [Tryz.params4] at hA hval hsz
  obtain ⟨v0, vs0, d0, ds0, p0, q0, hargs, rfl, rfl, h0, r0⟩ := trodAll_cons hA
  obtain ⟨v1, vs1, d1, ds1, p1, q1, rfl, rfl, rfl, h1, r1⟩ := trodAll_cons r0
  obtain ⟨v2, vs2, d2, ds2, p2, q2, rfl, rfl, rfl, h2, r2⟩ := trodAll_cons r1
  obtain ⟨rfl, rfl, rfl⟩ := trodAll_nil r2
  obtain rfl : args = #[v0, v1, v2] := by cases args; simp_all
  obtain ⟨rfl, rfl⟩ := trodVars_none hV
  obtain ⟨cs0, rfl, hsz0, _⟩ : ∃ cs, v0 = .agg cs ∧ cs.size = Tryz.prog.cellsOf 26 ∧ Row.okWide Tryz.prog W .any base 26 cs := by
    have := hval 0 26 v0 rfl rfl
    simpa [Value.okWide, Tryz.underlying26] using this
  have k0 := h0
  have lt0 : ∀ x ∈ p0, x.block < W.heap.size := by obtain ⟨m, hm⟩ := k0; exact DataW.trod_lt m _ _ _ hm
  obtain ⟨fuel0, hf0⟩ := h0
  obtain ⟨se0, S0, ep0, hq0, _⟩ := open_bb hsz0 hf0
  obtain ⟨a1, len1, cap1, rfl⟩ := okWide_slice Tryz.underlying27 (hval 1 27 v1 rfl rfl)
  have k1 := h1
  have lt1 : ∀ x ∈ p1, x.block < W.heap.size := by obtain ⟨m, hm⟩ := k1; exact DataW.trod_lt m _ _ _ hm
  obtain ⟨l1, hl1, ho1, hm1, hb1⟩ : ∃ l : List OpB, l.length = len1 ∧ OpsB W a1 l ∧ len1 ≤ 9223372036854775807 ∧ ∀ o ∈ l, o.s.length ≤ Rows.uptoBulk d1 := by obtain ⟨m, hm⟩ := h1; exact open_bops hm
  have hs1 : ∀ o ∈ l1, o.s.length ≤ 1048576 := fun o ho => by
    have h1 := hb1 o ho
    have hs := hk
    simp only [Rows.uptoSmall, Rows.uptoBulkAll, List.cons_append, List.nil_append, decide_eq_true_eq] at hs
    omega
  obtain ⟨s2, rfl, rfl, rfl, m2⟩ := open_string Tryz.underlying9 (hval 2 9 v2 rfl rfl) h2
  have rc2 : s2.data.toList.length ≤ 1048576 := by
    have hs := hk
    simp only [Rows.uptoSmall, Rows.uptoBulkAll, Rows.uptoBulk, List.cons_append, List.nil_append, decide_eq_true_eq] at hs
    omega
  obtain ⟨l2, hl2⟩ : ∃ l, l = s2.data.toList := ⟨_, rfl⟩
  obtain rfl : s2 = ⟨l2.toArray⟩ := by rw [hl2]
  rw [← hl2] at rc2
  clear hl2
  clear hA0
  have HC := ign_any se0 S0 ep0 a1 l1 len1 cap1 l2 W (env_of hL) hl1 ho1 hs1 hm1 rc2
  rw [← hq0] at HC
  refine HC.mono fun e W' ⟨he, bel⟩ => ?_
  subst he
  exact ⟨_, rfl, _, _, _, [], _, [], hW', trodAll_mk1 (shut_bool Tryz.underlying4 _), (trodAll_cons_mk (Below.trod laidOut (by kernel_rfl) (of_decide_eq_true (by kernel_rfl)) k0 bel lt0) (trodAll_cons_mk (Below.trod laidOut (by kernel_rfl) (of_decide_eq_true (by kernel_rfl)) k1 bel lt1) (trodAll_cons_mk (shut_string Tryz.underlying9 m2) trodAll_mk0))), rfl, bel.frame _, fun h => by cases h⟩
theorem reads (os : Os) {H : Type} (enc : TypeId × Value → H) : ∃ places, DataW.whole enc Tryz.prog ((laidWorld Tryz.prog os).forCall (fun _ _ => 0) ⟨#[], #[.agg zeroBB, .slice none 0 0, .string ⟨#[]⟩], []⟩).memory Tryz.f4.params.toList Rows.busIgnoresSpec.vars false (#[.agg zeroBB, .slice none 0 0, .string ⟨#[]⟩] : Array Value).toList 8 = some ([zeroBBD, .nil, .lit (.string [])], [], places) :=
  ⟨[], by kernel_rfl⟩

set_option maxHeartbeats 4000000 in
set_option maxRecDepth 100000 in
theorem lifted (os : Os) (started : os.Started) (H : Type) (enc : TypeId × Value → H) (F : Stop.Interp) :
    ReturnsInHanded {} Tryz.checked os 4 .any ((Rows.OpenSpec.upto Rows.busIgnoresSpec).preRow enc Tryz.prog Tryz.f4 Rows.busIgnoresUptoRow.domain false Rows.busIgnoresUptoRow.laid) (((Rows.OpenSpec.upto Rows.busIgnoresSpec).at F).post enc Tryz.prog Tryz.f4 false true false false) := by
  obtain ⟨places, hx⟩ := reads os enc
  refine returnsInHanded_of_row (C := Tryz.checked) (s := Rows.OpenSpec.upto Rows.busIgnoresSpec) own started (by kernel_rfl) Tryz.func4
    (witness_row_at (enc := enc) (C := Tryz.checked) false (laidWorld Tryz.prog os) #[.agg zeroBB, .slice none 0 0, .string ⟨#[]⟩] rfl (by kernel_rfl) (by kernel_rfl) (by kernel_rfl)
      (OpenSpec.preRow_of_cond 8 hx (by kernel_rfl) (fun k hk => by cases hk; kernel_rfl) (by kernel_rfl) (laid_met os _))) ?_
  intro W base args ds gs before hval hW _ hcond hsz hL _ _
  exact contract H enc W base args ds gs before hval hW hsz hL (hcond _ rfl)

theorem said : Rows.BusIgnoresUptoSaid :=
  OpenClaim.holds_of_cond 4 Tryz.f4 rfl rfl rfl rfl rfl rfl rfl ⟨rfl, rfl, rfl, rfl, rfl⟩ rfl rfl rfl rfl rfl (by kernel_rfl) Tryz.func4 (by kernel_rfl)
    (of_decide_eq_true (by kernel_rfl)) (by unfold Func.isWrapper; first | (rw [if_pos (by decide +kernel)]; kernel_rfl) | (rw [if_neg (by decide +kernel)]; exact ⟨rfl, rfl⟩))
    (fun os started H enc _ F => by rw [OpenClaim.pre_eq_preRow]; exact lifted os started H enc F)

theorem plain (f : FuncId) (fn : Func) (hf : Tryz.pinned.checked.prog.funcNamed "marshalyard/marshalyardlaw16.BusIgnores" = some f) (hfn : Tryz.pinned.checked.prog.funcs[f]? = some fn) :
    true = Tryz.pinned.checked.prog.looks [] ∧ ∀ (j : Nat) t, fn.params[j]? = some t → Tryz.pinned.checked.prog.wantsStandIn t = false := by
  obtain rfl : f = 4 := Option.some.inj ((show Tryz.prog.funcNamed "marshalyard/marshalyardlaw16.BusIgnores" = some 4 by kernel_rfl).symm.trans hf) |>.symm
  obtain rfl : fn = Tryz.f4 := (Option.some.inj (Tryz.func4.symm.trans hfn)).symm
  refine ⟨by kernel_rfl, fun j t ht => ?_⟩
  rw [Tryz.params4] at ht
  have hm : t = 26 ∨ t = 27 ∨ t = 9 := by simpa using Array.mem_of_getElem? ht
  rcases hm with rfl | rfl | rfl
  · exact (show Tryz.prog.wantsStandIn 26 = false by kernel_rfl)
  · exact (show Tryz.prog.wantsStandIn 27 = false by kernel_rfl)
  · exact (show Tryz.prog.wantsStandIn 9 = false by kernel_rfl)

end Go.Proofs.YtbfllifgmlkndaaGreatDoor.busIgnores
namespace Go.Proofs.YtbfllifgmlkndaaGreatDoor
open Go
/-- THE CARD -/
theorem busIgnores_card : Rows.BusIgnoresUptoCardSaid :=
  Claim7.holds_tied_plain_at .later [] _ _ _ _ busIgnores.said (fun _ h => by cases h) (by kernel_rfl) (fun _ h => by cases h) busIgnoresUpto_row_tie rfl ⟨rfl, rfl⟩ (by kernel_rfl) rfl busIgnores.plain (by kernel_rfl)
#print axioms busIgnores_card
end Go.Proofs.YtbfllifgmlkndaaGreatDoor
