/- Proved: whatever the begin, the script and the bytes, what comes twice, one behind the other, changes nothing the second time, and the same goes out: the law BusTwice returns true and leaves what came in as it was, where all that comes in holds together at most 1048576 values and letters; the listed variables are tied to the program's text. -/
import Derived.Test.YtbfllifgmlkndaaGreatDoorM50
import Derived.BigFrame
import Derived.Test.YtbfllifgmlkndaaGreatDoorCards
import Derived.Test.YtbfllifgmlkndaaGreatDoorTie
import Derived.Test.YtbfllifgmlkndaaGreatDoorM17
import Derived.ProofKit
import Derived.OpenShut
import Derived.ShutString
import Derived.ChangeMaps5
import Derived.ChangeOld
import Derived.RowKit
import Derived.Deep.DeepHandedRow
import Derived.SizedLaws
import Derived.Test.YtbfllifgmlkndaaGreatDoorM46
namespace Go.Proofs.YtbfllifgmlkndaaGreatDoor
open Go.RowKit Go.Shelf
open Slot

/-- two views, on the way -/
structure Tv (w wr : World) (c1 c2 : Nat) (u : Vw) : Prop where
  one : VB wr c1 u
  two : VB wr c2 u
  bel : Below w.heap.size w wr
theorem Tv.call {w wr w' : World} {c1 c2 : Nat} {u : Vw} (h : Tv w wr c1 c2 u) (hb : Below wr.heap.size wr w') : Tv w w' c1 c2 u :=
  ⟨h.one.below hb h.one.lt, h.two.below hb h.two.lt, h.bel.trans (hb.mono h.bel.size)⟩
/-- few of a row of one call, that a literal makes -/
def placesBO : Array (Nat × Nat) := #[(0, 1), (1, 1), (2, 1), (3, 1), (4, 1)]
theorem builtBO_any (parts : List (Nat × Value)) : Tryz.prog.built 43 parts = Instr.fill (fun i => placesBO[i]?) #[.int .i64 0, .int .i64 0, .int .i64 0, .int .u64 0, .string ⟨#[]⟩] parts := by kernel_rfl
theorem built_bo (s : Bs) : Tryz.prog.built 43 [(4, .string ⟨s.toArray⟩)] = some (opbCells ⟨0, 0, 0, 0, s⟩) := by
  rw [builtBO_any]
  rfl
theorem wp_buildBO {o : Oper} {a : Act} {w : World} {K : Act → World → Prop} {Q : Exit → Act → World → Prop} (x : Operand) (ho : o.op = .build 43 #[(4, x)]) (u : Value) (OC : Array Value) (hb : Tryz.prog.built 43 [(4, u)] = some OC) (hx : a.eval x = u)
    (h : K (a.put o.dst (.agg OC)) w) : o.wp Tryz.prog a w K Q := by
  have e : (#[(4, x)].map fun (i, x) => (i, a.eval x)).toList = [(4, u)] := by simp [hx]
  exact wp_build 43 _ ho (by rw [e, hb]; rfl) (by rw [e, hb]; exact h)
theorem infoBOt : (Tryz.prog.info? 43).map (fun i => (i.zero.isSome, i.size)) = some (true, 5) := by kernel_rfl
theorem run_bsliceBO (OC : Array Value) (hs : OC.size = 5) (w : World) : (Instr.buildSlice 27 1 #[(0, .agg OC)]).run Tryz.prog w = .ok (.slice (some ⟨w.heap.size, 0, none⟩) 1 1) (w.alloc (.cells OC 43)) := by
  have hi := infoBOt
  cases hi0 : Tryz.prog.info? 43 with
  | none => rw [hi0] at hi; cases hi
  | some i0 =>
    rw [hi0] at hi
    simp only [Option.map_some, Option.some.injEq, Prod.mk.injEq] at hi
    obtain ⟨hz0, hz1⟩ := hi
    obtain ⟨z, hz⟩ := Option.isSome_iff_exists.1 hz0
    refine run_buildSlice w 27 43 1 _ OC i0 z Tryz.underlying27 hi0 hz (by rw [hz1]; decide) (by rw [hz1]; decide) ?_
    rw [hz1]
    generalize hB : (Array.range (1 * 5)).map (z.cells[· % z.cells.size]!) = B
    have hBs : B.size = 5 := by rw [← hB]; simp
    show Instr.fill (fun i => some (i * 5, 5)) B [(0, .agg OC)] = some OC
    simp only [Instr.fill, Value.cells, hs, hBs]
    rw [if_neg (by simp)]
    refine congrArg some ?_
    have := fill_row #[] B OC (by rw [hs, hBs])
    simpa using this
theorem wp_bsliceBO {o : Oper} {a : Act} {w : World} {K : Act → World → Prop} {Q : Exit → Act → World → Prop} (x : Operand) (ho : o.op = .buildSlice 27 1 #[(0, x)]) (OC : Array Value) (hx : a.eval x = .agg OC) (hs : OC.size = 5)
    (h : K (a.put o.dst (.slice (some ⟨w.heap.size, 0, none⟩) 1 1)) (w.alloc (.cells OC 43))) : o.wp Tryz.prog a w K Q := by
  unfold Oper.wp execOp
  simp only [ho, List.map_toArray, List.map_cons, List.map_nil, hx, Sem.run_bind, run_bsliceBO OC hs w, Result.andThen_ok]
  exact h
theorem few_oneb (self : Int) (S : Nat → Bool) (e : Nat) (s : Bs) (hs : s.length ≤ 1048576) (w : World) : Tryz.prog.built 43 [(4, .string ⟨s.toArray⟩)] = some (opbCells ⟨0, 0, 0, 0, s⟩) ∧ (opbCells ⟨0, 0, 0, 0, s⟩).size = 5 ∧
    Calls Tryz.prog 9 #[.agg (bbCells self S e), .slice (some ⟨w.heap.size, 0, none⟩) 1 1] (w.alloc (.cells (opbCells ⟨0, 0, 0, 0, s⟩) 43)) (FewB [⟨0, 0, 0, 0, s⟩] (w.alloc (.cells (opbCells ⟨0, 0, 0, 0, s⟩) 43))) := by
  refine ⟨built_bo s, rfl, fewb_any self S e _ [⟨0, 0, 0, 0, s⟩] 1 1 _ rfl (fun _ => ⟨w.heap.size, 0, rfl, by simp, fun j hj => ?_⟩) (fun o ho => by rw [List.mem_singleton.1 ho]; exact hs) (by decide)⟩
  obtain rfl : j = 0 := by simpa using hj
  exact row_range (heap_alloc_new w _)
def fieldsOut : Array Field := #[{ name := "To", type := 3, offset := 0, embedded := false, tag := "", pkgPath := "", byteOffset := 0 }, { name := "Bytes", type := 9, offset := 1, embedded := false, tag := "", pkgPath := "", byteOffset := 8 }]
/-- two views and two rows, on the way -/
structure Tx (w wr : World) (c1 c2 : Nat) (u : Vw) (a1 a2 : Option Addr) (O : List (Int × Bs)) : Prop where
  tv : Tv w wr c1 c2 u
  o1 : OutB wr a1 O
  o2 : OutB wr a2 O
theorem Tx.drew {w wr : World} {c1 c2 : Nat} {u : Vw} {a1 a2 : Option Addr} {O : List (Int × Bs)} (h : Tx w wr c1 c2 u a1 a2 O) : Tx w wr.drew c1 c2 u a1 a2 O := by
  have hb := (Below.refl wr.heap.size wr).drew
  exact ⟨h.tv.call hb, h.o1.call hb, h.o2.call hb⟩
theorem range2 {w : World} {x o : Nat} {u v : Value} (h1 : w.cell? ⟨x, o, none⟩ = some u) (h2 : w.cell? ⟨x, o + 1, none⟩ = some v) : w.rangeAt x o (#[u, v] : Array Value).toList := fun j y hy => by
  have hj : j < 2 := by simpa using (List.getElem?_eq_some_iff.1 hy).1
  match j, hj with
  | 0, _ => rw [← hy]; exact h1
  | 1, _ => rw [← hy]; exact h2
theorem eq_out (t : Int) (Z : ByteArray) (w : World) : (Op.equalIn 10000 69 (.agg #[.int .i64 t, .string Z]) (.agg #[.int .i64 t, .string Z])).run Tryz.prog w = .ok true w := by
  have hF : Tryz.prog.fieldsOf 69 = fieldsOut := by unfold Program.fieldsOf; rw [Tryz.underlying69]; rfl
  have a3 := Tryz.isAgg3
  have a9 := Tryz.isAgg9
  have q0 : (part 3 #[.int .i64 t, .string Z] 0).run Tryz.prog w = .ok (.int .i64 t) w := by simp [part, a3]
  have q1 : (part 9 #[.int .i64 t, .string Z] 1).run Tryz.prog w = .ok (.string Z) w := by simp [part, a9]
  have e3 : (Op.equalIn 9999 3 (.int .i64 t) (.int .i64 t)).run Tryz.prog w = .ok (t == t) w := run_equalIn_int w 9998 3 .i64 .i64 t t Tryz.underlying3
  have e9 : (Op.equalIn 9999 9 (.string Z) (.string Z)).run Tryz.prog w = .ok (Z.toList == Z.toList) w := run_equalIn_string w 9998 9 Z Z Tryz.underlying9
  rw [show (10000 : Nat) = 9999 + 1 from rfl, run_equalIn_struct w 9999 69 _ _ (by rw [hF]; exact Tryz.underlying69) Tryz.stoodInHeld69, hF]
  simp only [fieldsOut, Op.eqFields, ne_eq, String.reduceEq, not_false_eq_true, if_true, Sem.run_bind, Sem.run_ite, Sem.run_pure, q0, q1, e3, e9, Result.andThen_ok]
  simp
set_option maxHeartbeats 8000000 in
set_option maxRecDepth 100000 in
theorem twice_any (self : Int) (S : Nat → Bool) (e : Nat) (a : Option Addr) (L : List OpB) (n c : Nat) (s : Bs) (w : World) (hE : Env w) (hn : L.length = n) (hL : OpsB w a L) (hS : ∀ o ∈ L, o.s.length ≤ 1048576) (hm : n ≤ 9223372036854775807) (hs : s.length ≤ 1048576) :
    Calls Tryz.prog 6 #[.agg (bbCells self S e), .slice a n c, .string ⟨s.toArray⟩] w fun e w' => e = .returned (.bool true) ∧ Below w.heap.size w w' := by
  have HB1 : Hid ((w.alloc (.cells (bbCells self S e) 26)).heap[w.heap.size]? = some (.cells (bbCells self S e) 26 (0, 0))) := heap_alloc_new w _
  have HW1 := hid (below_alloc w (.cells (bbCells self S e) 26))
  have HBc := hid (fun (W : World) (h : W.heap[w.heap.size]? = some (.cells (bbCells self S e) 26 (0, 0))) => bb_cells h)
  have iB := infoBB self S e
  have iC := infoBl (S := S)
  have HFe := hid (fun W (h : OpsB W a L) => fewb_any self S e a L n c W hn h hS hm)
  have HFo := hid (fun W => few_oneb self S e s hs W)
  have HAl := hid (fun W (h : Env W) => balive_any W h)
  have HNo := hid (fun (q : Int) (h : newE self e = q) (hq : q ≠ 0) W => unew_no self e S q W h hq)
  have HYe : Hid (newE self e = 0 → ∃ s : Nat, self = (s : Int) ∧ s < 64 ∧ e ≤ 4611686018427387904) := fun h => newE_yes h
  have HNu := hid (fun (s : Nat) (hs : s < 64) (he : e ≤ 4611686018427387904) W (h : 7 ≤ W.heap.size) => unew_yes 7 s e S W h hs he)
  have HOk := hid (fun (s : Nat) (hs : s < 64) (he : e ≤ 4611686018427387904) => new_ok (self := s) (e := e) S hs he)
  have HMe : Hid (∀ s : Nat, (newV s S e).self = s) := fun _ => rfl
  have HSl := hid hs
  have HE := hid hE
  have HL := hid hL
  have HN := hid hn
  have HS := hid hS
  obtain ⟨BC, hBC⟩ : ∃ C, bbCells self S e = C := ⟨_, rfl⟩
  rw [hBC] at HB1 HW1 HBc iB HFe HFo ⊢
  obtain ⟨CS, hCS⟩ : ∃ C, cellsOf S = C := ⟨_, rfl⟩
  rw [hCS] at HBc iC HNo HNu
  obtain ⟨SB, hSB⟩ : ∃ S : ByteArray, ⟨s.toArray⟩ = S := ⟨_, rfl⟩
  have HTk := hid (fun b vb F v O W (hB : BB 7 W F b vb v O) (hE : Env W) (hOk : v.Ok 1000000) (hO : O.length ≤ 800000) => utake_any 7 b vb F v O s W hB hE (Nat.le_refl _) hOk hO (by omega))
  rw [hSB] at HTk HFo ⊢
  obtain ⟨OF, hOF⟩ : ∃ o : OpB, ⟨0, 0, 0, 0, s⟩ = o := ⟨_, rfl⟩
  rw [hOF] at HFo
  obtain ⟨OFC, hOFC⟩ : ∃ C, opbCells OF = C := ⟨_, rfl⟩
  rw [hOFC] at HFo
  clear hBC hCS hE hL hn hS hSB hs hOF hOFC
  go_enter Tryz.func6, Tryz.ntmps6
  go_upto_region 1 with fail
  generalize w.alloc (.cells BC 26) = w1 at *
  obtain ⟨k0, k1, k2⟩ := HBc.out _ HB1.out
  by_cases hne : newE self e = 0
  · obtain ⟨s0, rfl, hs, he⟩ := HYe.out hne
    have HNu1 := hid (HNu.out s0 hs he)
    have HOk0 := hid (HOk.out s0 hs he)
    have HMe0 := hid (HMe.out s0)
    obtain ⟨v0, hv⟩ : ∃ v, newV s0 S e = v := ⟨_, rfl⟩
    rw [hv] at HNu1 HOk0 HMe0
    clear HNu HOk HMe HNo HYe hne hv hs he
    go_wp2_with (refine wpList_load_mid rfl 24 _ rfl w.heap.size 1 rfl _ _ k1 Tryz.underlying24 rfl iC ?_; rw [Array.toArray_toList])
    refine (HNu1.out _ (Nat.le_trans HE.out.room HW1.out.size)).mono ?_; rintro r w2 ⟨b, vb, F0, rfl, hB, hF, hb⟩
    obtain ⟨F, hA⟩ := ba_new hB (fun x hx => Nat.le_trans HW1.out.size (hF x hx)) (HW1.out.trans (hb.mono HW1.out.size)) HOk0.out HMe0.out
    have HA2 := hid hA
    have HBg2 := hid ((hb.block _ (Array.getElem?_eq_some_iff.1 HB1.out).1).trans HB1.out)
    clear hA hB hF hb k0 k1 k2 HNu1 HB1 HOk0 HMe0
    go_wp2_with (refine wpList_load_want rfl 26 _ rfl w.heap.size rfl 26 _ (0, 0) _ HBg2.out Tryz.underlying26 rfl iB ?_)
    refine (HFe.out w2 (HL.out.below HA2.out.bel (Nat.le_refl _))).mono ?_; rintro r w3 ⟨Bq, rfl, hBq, hb⟩
    have HA3 := hid (HA2.out.call hb)
    have HBg3 := hid ((hb.block _ (Array.getElem?_eq_some_iff.1 HBg2.out).1).trans HBg2.out)
    have HQ := hid hBq
    clear hb hBq HA2 HBg2 HFe
    cases Bq with
    | false =>
      go_wp2_with fail
      refine (HAl.out w3 (HE.out.below HA3.out.bel HE.out.room)).mono ?_; rintro r wz ⟨rfl, hbz⟩
      have HWz := hid ((HA3.out.bel).trans (hbz.mono (HA3.out.bel).size))
      clear hbz
      go_wp2_with fail
      go_ret
      exact ⟨rfl, HWz.out⟩
    | true =>
      have HQ1 := hid (HQ.out rfl).1
      clear HQ
      go_wp2_with (first | (refine wpList_load_want rfl 26 _ rfl w.heap.size rfl 26 _ (0, 0) _ HBg3.out Tryz.underlying26 rfl iB ?_) | (refine BigFrame.wpList_want rfl (fun K hK => ?_); refine wp_buildBO _ rfl (.string SB) OFC (HFo.out w).1 rfl (hK _ _ ?_)) | (refine BigFrame.wpList_want rfl (fun K hK => ?_); refine wp_bsliceBO _ rfl OFC rfl (HFo.out w).2.1 (hK _ _ ?_)))
      refine (HFo.out w3).2.2.mono ?_; rintro r w4 ⟨Bf, rfl, -, hb4⟩
      have hb34 := (below_alloc w3 (.cells OFC 43)).trans (hb4.mono (below_alloc w3 (.cells OFC 43)).size)
      have HA4 := hid (HA3.out.call hb34)
      have HBg4 := hid ((hb34.block _ (Array.getElem?_eq_some_iff.1 HBg3.out).1).trans HBg3.out)
      clear hb4 hb34 HA3 HBg3 HFo
      cases Bf with
      | false =>
        go_wp2_with fail
        refine (HAl.out w4 (HE.out.below HA4.out.bel HE.out.room)).mono ?_; rintro r wz ⟨rfl, hbz⟩
        have HWz := hid ((HA4.out.bel).trans (hbz.mono (HA4.out.bel).size))
        clear hbz
        go_wp2_with fail
        go_ret
        exact ⟨rfl, HWz.out⟩
      | true =>
        have HBg3 := hid HBg4.out
        clear HBg4
        have hn40 : (n : Int) ≤ 40 := by have := HQ1.out; have := HN.out; omega
        clear HQ1
        go_wp2_with fail
        go_loopw [52] (fun i wr => ∃ k : Nat, k ≤ n ∧ i = .int .i64 k ∧ Hid (∃ F v O, Ba w wr b vb s0 F v O k) ∧ Hid (wr.heap[w.heap.size]? = some (.cells BC 26 (0, 0)))) (fun i _ => n - (intOf i).toNat)
        case atStart => exact ⟨0, by omega, rfl, ⟨F, v0, [], HA4.out⟩, HBg3.out⟩
        case round =>
          clear HA4 HBg3
          obtain ⟨k, hk, rfl, HX, HBg⟩ := hrel
          obtain ⟨Fk, vk, Ok, hAk⟩ := HX.out
          have HAk := hid hAk
          clear HX hAk
          by_cases hlt : k < n
          · have hkz : (k : Int) < (n : Int) := by omega
            have hkL : k < L.length := by have := HN.out; omega
            obtain ⟨ob, oo, rfl, hbl, h1⟩ := HL.out (fun e => by rw [e] at hkL; exact absurd hkL (Nat.not_lt_zero _))
            obtain ⟨op, hop⟩ : ∃ op, L[k] = op := ⟨_, rfl⟩
            have g0 := h1 k hkL
            rw [hop] at g0
            have HSo : Hid (op.s.length ≤ 1048576) := HS.out op (by rw [← hop]; exact List.getElem_mem hkL)
            have HG : Hid (wr.rangeAt ob (oo + k * 5) (opbCells op).toList) := fun j v hv => by
              rw [HAk.out.bel.cell (p := ⟨ob, oo + k * 5 + j, none⟩) hbl]; exact g0 j v hv
            have iO := infoOpbl op
            have iO2 := infoOpb op
            have oO := opbCells_one op
            have hta : (opbCells op).toList.toArray = opbCells op := Array.toArray_toList
            have zO : (#[.int .i64 0, .int .i64 0, .int .i64 0, .int .u64 0, .string ⟨#[]⟩] : Array Value).size = (opbCells op).size := rfl
            have HZ7 := hid (heap_alloc_new wr (.cells #[.int .i64 0, .int .i64 0, .int .i64 0, .int .u64 0, .string ⟨#[]⟩] 43))
            have hb7 := below_setRow (g := wr.heap.size) (below_alloc wr (.cells #[.int .i64 0, .int .i64 0, .int .i64 0, .int .u64 0, .string ⟨#[]⟩] 43)) (Nat.le_refl _) (opbCells op)
            have HO7 := hid (setRow_heap _ _ _ (opbCells op) _ _ HZ7.out)
            have HA7 := hid (HAk.out.call hb7)
            have HBg7 := hid ((hb7.block _ (Array.getElem?_eq_some_iff.1 HBg.out).1).trans HBg.out)
            have HDo := hid (fun g W (h : Dk 7 b vb Fk vk Ok 0 g 0 vZ (.slice none 0 0) [] W) => does_any 7 b vb Fk vk Ok 0 g 64 0 vZ (.slice none 0 0) [] op W h HSo.out (.inr rfl))
            obtain ⟨OC, hOC⟩ : ∃ C, opbCells op = C := ⟨_, rfl⟩
            rw [hOC] at HG iO iO2 oO hta zO HO7 HA7 HBg7 HDo
            clear h1 g0 hop hkL hOC hb7 HAk HBg
            go_upto_region 7 with (first | (refine wpList_load_mid rfl 43 _ rfl ob (oo + k * 5) rfl _ _ HG.out Tryz.underlying43 rfl iO ?_; rw [hta]) | (refine wpList_store_row rfl 43 _ _ rfl wr.heap.size OC rfl rfl 43 _ HZ7.out iO2 zO oO ?_))
            clear HZ7 HG oO hta zO iO2
            generalize (wr.alloc (.cells #[.int .i64 0, .int .i64 0, .int .i64 0, .int .u64 0, .string ⟨#[]⟩] 43)).setRow wr.heap.size OC = w7 at *
            generalize wr.heap.size = xo at *
            have HSr : Hid (∀ W : World, W.heap[xo]? = some (.cells OC 43 (0, 0)) → W.rangeAt xo 0 OC.toList) := fun W h => row_range h
            have hs0 := HSr.out w7 HO7.out
            refine wp_region_held_drew (S := fun W => W.rangeAt xo 0 OC.toList) (by kernel_rfl) hs0 (fun hHeld => ?_)
            clear hs0
            have u43 := Tryz.underlying43
            refine wpAnyH_take (i := 0) (oi := { dst := some 56, op := Op.move (Operand.tmp 7), type := 28, pos := "law.go:272", after := #[], guard := none }) (v := .pointer (some ⟨b, 0, none⟩)) rfl (by kernel_rfl) (by kernel_rfl) (by kernel_rfl) (fun _ _ _ h => h) (Or.inl ⟨by rfl, fun wS hSw => ?_⟩) (by assumption) ?_
            · clear hHeld
              clear hSw
              go_simp
            try simp only [Act.put, List.setIfInBounds_toArray, List.set_cons_zero, List.set_cons_succ]
            refine wpAnyH_take (i := 4) (oi := { dst := some 60, op := Op.load 43 (Operand.tmp 10), type := 43, pos := "law.go:272", after := #[], guard := none }) (v := .agg OC) rfl (by kernel_rfl) (by kernel_rfl) (by kernel_rfl) (fun _ _ _ h => h) (yieldsIf_load_arr Array.toArray_toList (by rfl) _ _ rfl _ _ rfl (fun _ h => h) u43 rfl iO) (by assumption) ?_
            try simp only [Act.put, List.setIfInBounds_toArray, List.set_cons_zero, List.set_cons_succ]
            refine wpAnyH_ready (rs := [1]) (by kernel_rfl) (by simp) ?_
            refine AllReadyH.cons (o := { dst := some 57, op := Op.makeSlice 32 (Operand.const (Value.int IntKind.i64 64)) (Operand.const (Value.int IntKind.i64 64)), type := 32, pos := "law.go:272", after := #[], guard := none }) rfl (fun K hK => ?_) AllReadyH.nil
            clear hHeld
            rw [if_pos (by rfl)]
            refine wp_mkNodes rfl ?_
            have hb8 := below_alloc w7.drew (.cells madeN 79)
            have HN8 := hid (nd_made w7.drew)
            have HA8 := hid (HA7.out.drew.call hb8)
            have HO8 : Hid ((w7.drew.alloc (.cells madeN 79)).heap[xo]? = some (.cells OC 43 (0, 0))) := (hb8.block xo (Array.getElem?_eq_some_iff.1 HO7.out).1).trans HO7.out
            have HBg8 : Hid ((w7.drew.alloc (.cells madeN 79)).heap[w.heap.size]? = some (.cells BC 26 (0, 0))) := (hb8.block w.heap.size (Array.getElem?_eq_some_iff.1 HBg7.out).1).trans HBg7.out
            clear hb8 HA7 HO7 HBg7
            refine hK.out _ _ (HSr.out _ HO8.out) (fun hHeld => ?_)
            clear hK K
            try simp only [Act.put, List.setIfInBounds_toArray, List.set_cons_zero, List.set_cons_succ]
            generalize w7.drew.alloc (.cells madeN 79) = w8 at *
            generalize w7.drew.heap.size = g8 at *
            have hrv := built_rv g8
            have hrb := built_rb 0 g8 64 0
            have HDk := hid (HDo.out g8 w8 (HA8.out.dk HE.out (by omega) HN8.out))
            have hz0 : vZ.cur = 0 := rfl
            rw [hz0] at HDk
            obtain ⟨RV, hRV⟩ : ∃ C, rvc 0 g8 64 0 = C := ⟨_, rfl⟩
            rw [hRV] at hrv hrb
            obtain ⟨RC, hRC⟩ : ∃ C, rbc 0 g8 64 0 (.slice none 0 0) = C := ⟨_, rfl⟩
            rw [hRC] at hrb HDk
            clear hRV hRC hz0 HDo
            refine wpAnyH_ready (rs := [2]) (by kernel_rfl) (by simp) ?_
            refine AllReadyH.cons (o := { dst := some 58, op := Op.build 34 #[(1, Operand.tmp 57)], type := 34, pos := "law.go:272", after := #[{ on := 1, ground := Ground.data }], guard := none }) rfl (fun K hK => ?_) AllReadyH.nil
            have hs := hid hHeld
            clear hHeld
            rw [if_pos (by rfl)]
            refine wp_buildRV _ rfl (.slice (some ⟨g8, 0, none⟩) 64 64) RV hrv rfl ?_
            refine hK.out _ _ (HSr.out _ HO8.out) (fun hHeld => ?_)
            clear hK K hs
            try simp only [Act.put, List.setIfInBounds_toArray, List.set_cons_zero, List.set_cons_succ]
            refine wpAnyH_ready (rs := [3]) (by kernel_rfl) (by simp) ?_
            refine AllReadyH.cons (o := { dst := some 59, op := Op.build 41 #[(0, Operand.tmp 58)], type := 41, pos := "law.go:272", after := #[{ on := 2, ground := Ground.data }], guard := none }) rfl (fun K hK => ?_) AllReadyH.nil
            have hs := hid hHeld
            clear hHeld
            rw [if_pos (by rfl)]
            refine wp_buildRB _ rfl RV RC hrb rfl ?_
            refine hK.out _ _ (HSr.out _ HO8.out) (fun hHeld => ?_)
            clear hK K hs
            try simp only [Act.put, List.setIfInBounds_toArray, List.set_cons_zero, List.set_cons_succ]
            refine wpAnyH_ready (rs := [5]) (by kernel_rfl) (by simp) ?_
            refine AllReadyH.cons (o := { dst := some 61, op := Op.call { callee := Callee.value (Operand.func 11), args := #[Operand.tmp 56, Operand.tmp 59, Operand.tmp 60], argTypes := #[28, 41, 43] }, type := 44, pos := "law.go:272", after := #[{ on := 0, ground := Ground.data }, { on := 3, ground := Ground.data }, { on := 4, ground := Ground.data }], guard := none }) rfl (fun K hK => ?_) AllReadyH.nil
            clear hHeld
            go_simp
            refine HDk.out.mono ?_; rintro r w9 hd
            obtain ⟨⟨x, rfl⟩, F9, v9, O9, hA9, hK9⟩ := HA8.out.does hd
            have HA9 := hid hA9
            have HO9 := hid ((hK9.block xo (Array.getElem?_eq_some_iff.1 HO8.out).1 (HA8.out.ty.not HO8.out (by decide) (by decide) (by decide))).trans HO8.out)
            have HBg9 := hid ((hK9.block w.heap.size (Array.getElem?_eq_some_iff.1 HBg8.out).1 (HA8.out.ty.not HBg8.out (by decide) (by decide) (by decide))).trans HBg8.out)
            clear hd hA9 hK9 HA8 HO8 HBg8 HDk
            go_wp2_with fail
            refine hK.out _ _ (HSr.out _ HO9.out) (fun hHeld => ?_)
            clear hK K
            try simp only [Act.put, List.setIfInBounds_toArray, List.set_cons_zero, List.set_cons_succ]
            refine wpAnyH_done (by kernel_rfl) ?_ _
            clear hHeld
            go_wp2_with fail
            go_roundw
            case rel => exact ⟨k + 1, by omega, by go_num, ⟨F9, v9, O9, HA9.out⟩, HBg9.out⟩
            case measure => simp [intOf]; omega
          · obtain rfl : k = n := by omega
            clear HBg iB iC
            go_wp2_with fail
            refine (uouts_any 7 b vb Fk vk Ok _ HAk.out.bus).mono ?_; rintro r wd ⟨ad, cd, rfl, ho, hx, Fx, hB, hK, hx2⟩
            obtain ⟨Fd, hA, hK2, hls⟩ := HAk.out.step (v' := vk) hB hK (HAk.out.ok.mono (by omega)) rfl (by simp)
            have HAd := hid hA
            have HKd := hid hK2
            have HOd := hid ((ou_new HAk.out.bus hK ho hx hx2).less hls)
            clear ho hx hB hK hx2 hA hK2 hls
            have HTw := hid (bView_twice HAd.out.ok s)
            have HT1 := hid (bTake_self (bView_self vk s) s)
            have HTe := hid (HTk.out b vb Fd vk [] wd HAd.out.bus (HE.out.below HAd.out.bel HE.out.room) (HAd.out.ok.mono (by omega)) (by simp))
            have HVk := hid (bView_ok HAd.out.ok s)
            have HSl1 := hid (bView_self vk s)
            have HLn := hid (bOut_len vk s)
            rw [List.nil_append] at HTe
            obtain ⟨v1, hv1⟩ : ∃ v, bView vk s = v := ⟨_, rfl⟩
            obtain ⟨O1, hO1⟩ : ∃ o, bOut vk s = o := ⟨_, rfl⟩
            obtain ⟨T1, hT1⟩ : ∃ t, bTake vk s = t := ⟨_, rfl⟩
            rw [hv1, hO1] at HTw
            rw [hv1, hT1] at HT1
            rw [hv1, hO1, hT1] at HTe
            rw [hv1] at HVk HSl1
            rw [hO1] at HLn
            clear hv1 hO1 hT1 HKd HOd
            go_wp2_with fail
            refine HTe.out.mono ?_; rintro r we ⟨rfl, Fx, hB, hK⟩
            obtain ⟨Fe, hA, -, -⟩ := HAd.out.step hB hK HVk.out HSl1.out (by have := HLn.out; omega)
            have HAe := hid hA
            clear hB hK hA HTe HAd HVk HSl1
            go_wp2_with fail
            refine (uouts_any 7 b vb Fe v1 O1 _ HAe.out.bus).mono ?_; rintro r wf ⟨af, cf, rfl, ho, hx, Fx, hB, hK, hx2⟩
            obtain ⟨Ff, hA, hK2, hls⟩ := HAe.out.step (v' := v1) hB hK (HAe.out.ok.mono (by omega)) rfl (by simp)
            have HAf := hid hA
            have HKf := hid hK2
            have HOf := hid ((ou_new HAe.out.bus hK ho hx hx2).less hls)
            clear ho hx hB hK hx2 hA hK2 hls
            clear HKf HAe
            obtain ⟨n1, hn1⟩ : ∃ n, O1.length = n := ⟨_, rfl⟩
            have HN1 := hid hn1
            rw [hn1]
            clear hn1
            go_wp2_with fail
            refine (uview_any 7 b vb Ff v1 [] wf HAf.out.bus).mono ?_; rintro r wg ⟨c1, rfl, hv, hc1, hb⟩
            have HV1 := hid hv
            have HAg := hid (HAf.out.call hb)
            have HOg := hid (HOf.out.call hb)
            have HC1 : Hid (¬ Ff c1) := fun c => by have := HAf.out.bus.lt c1 c; omega
            clear hv hb hc1 HAf HOf
            have HTg := hid (HTk.out b vb Ff v1 [] wg HAg.out.bus (HE.out.below HAg.out.bel HE.out.room) (HAg.out.ok.mono (by omega)) (by simp))
            rw [List.nil_append, HTw.out.1, HTw.out.2, HT1.out] at HTg
            clear HTw HT1 HTk
            go_wp2_with fail
            refine HTg.out.mono ?_; rintro r wh ⟨rfl, Fx, hB, hK⟩
            obtain ⟨Fh, hA, hK2, -⟩ := HAg.out.step hB hK (HAg.out.ok.mono (by omega)) rfl (by have := HLn.out; omega)
            have HAh := hid hA
            have HV1h := hid (vb_kp HV1.out hK2 HC1.out)
            have HOh := hid (HOg.out.kp hK2)
            have HC1h : Hid (¬ Fh c1) := fun c => (hK2.foot c1 c).elim HC1.out (fun d => by have := HV1.out.lt; omega)
            clear hB hK hA hK2 HTg HAg HV1 HC1 HOg
            go_wp2_with fail
            refine (uouts_any 7 b vb Fh v1 O1 _ HAh.out.bus).mono ?_; rintro r wi ⟨a2, c2x, rfl, ho, hx, Fx, hB, hK, hx2⟩
            obtain ⟨Fi, hA, hK2, hls⟩ := HAh.out.step (v' := v1) hB hK (HAh.out.ok.mono (by omega)) rfl (by simp)
            have HAi := hid hA
            have HKi := hid hK2
            have HOi := hid ((ou_new HAh.out.bus hK ho hx hx2).less hls)
            clear ho hx hB hK hx2 hA hK2 hls
            have HV1i := hid (vb_kp HV1h.out HKi.out HC1h.out)
            have HO1i := hid (HOh.out.kp HKi.out)
            have HC1i : Hid (¬ Fi c1) := fun c => (HKi.out.foot c1 c).elim HC1h.out (fun d => by have := HV1h.out.lt; omega)
            rw [HN1.out]
            clear HV1h HOh HC1h HAh HKi
            go_wp2_with fail
            refine (uview_any 7 b vb Fi v1 [] wi HAi.out.bus).mono ?_; rintro r wj ⟨c2, rfl, hv, -, hb⟩
            have HX := hid (show Tx w wj c1 c2 v1 af a2 O1 from ⟨⟨HV1i.out.below hb HV1i.out.lt, hv, HAi.out.bel.trans (hb.mono HAi.out.bel.size)⟩, HO1i.out.out.call hb, HOi.out.out.call hb⟩)
            clear hv hb HV1i HO1i HC1i HAi HOi
            have HCb := hid (current_any c1 v1 wj HX.out.tv.one)
            have HCc := hid (current_any c2 v1 wj HX.out.tv.two)
            obtain ⟨cu, hcu⟩ : ∃ x, v1.cur = x := ⟨_, rfl⟩
            rw [hcu] at HCb HCc
            have hcc : ((cu : Int) != (cu : Int)) = false := by simp
            have hnn : ((n1 : Int) != (n1 : Int)) = false := by simp
            have htt : (T1 != T1) = false := by cases T1 <;> rfl
            have hn2 : (n1 : Int) ≤ 2 := by have := HN1.out; have := HLn.out; omega
            clear hcu
            go_wp2_with fail
            refine HCb.out.mono ?_; rintro r wy ⟨rfl, rfl⟩
            go_wp2_with fail
            refine HCc.out.mono ?_; rintro r wy ⟨rfl, rfl⟩
            clear HCb HCc
            go_wp2_with fail
            go_loopw [106] (fun i wr => ∃ k : Nat, i = .int .i64 (k : Int) ∧ k ≤ n1 ∧ Hid (Tx w wr c1 c2 v1 af a2 O1)) (fun i _ => n1 - (intOf i).toNat)
            case atStart => exact ⟨0, rfl, Nat.zero_le _, HX.out⟩
            case round =>
              clear HX
              obtain ⟨q, rfl, hq, HX⟩ := hrel
              by_cases hlt : q < n1
              · have hkz : (q : Int) < (n1 : Int) := by omega
                have hqL : q < O1.length := by have := HN1.out; omega
                obtain ⟨x5, y5, rfl, -, hr5⟩ := HX.out.o1 (fun e => by rw [e] at hqL; exact absurd hqL (Nat.not_lt_zero _))
                obtain ⟨x6, y6, rfl, -, hr6⟩ := HX.out.o2 (fun e => by rw [e] at hqL; exact absurd hqL (Nat.not_lt_zero _))
                obtain ⟨z, hz⟩ : ∃ z, O1[q] = z := ⟨_, rfl⟩
                have g5 := hr5 q hqL
                have g6 := hr6 q hqL
                rw [hz] at g5 g6
                have HEq := hid (fun w => eq_out z.1 ⟨z.2.toArray⟩ w)
                have HR5 : Hid (_root_.Go.World.rangeAt wr x5 (y5 + q * 2) (#[Value.int .i64 z.1, .string ⟨z.2.toArray⟩] : Array Value).toList) := range2 g5.1 g5.2
                have HR6 : Hid (_root_.Go.World.rangeAt wr x6 (y6 + q * 2) (#[Value.int .i64 z.1, .string ⟨z.2.toArray⟩] : Array Value).toList) := range2 g6.1 g6.2
                have iO : (Tryz.prog.info? 69).map (·.size) = some (#[Value.int .i64 z.1, .string ⟨z.2.toArray⟩] : Array Value).toList.length := by show _ = some 2; kernel_rfl
                obtain ⟨RX, hRX⟩ : ∃ C : Array Value, #[Value.int .i64 z.1, .string ⟨z.2.toArray⟩] = C := ⟨_, rfl⟩
                rw [hRX] at HEq HR5 HR6 iO
                clear hr5 hr6 g5 g6 hz hqL hRX
                go_upto_region 21 with fail
                have u69 := Tryz.underlying69
                have hs0 : (fun W : World => W.rangeAt x5 (y5 + q * 2) RX.toList ∧ W.rangeAt x6 (y6 + q * 2) RX.toList) (_root_.Go.World.drew wr) := ⟨HR5.out, HR6.out⟩
                refine wp_region_held_drew (S := fun W => W.rangeAt x5 (y5 + q * 2) RX.toList ∧ W.rangeAt x6 (y6 + q * 2) RX.toList) (by kernel_rfl) hs0 (fun hHeld => ?_)
                clear hs0
                refine wpAnyH_take (i := 0) (oi := { dst := some 109, op := Op.move (Operand.tmp 12), type := 47, pos := "law.go:285", after := #[], guard := none }) (v := .slice (some ⟨x5, y5, none⟩) n1 cf) rfl (by kernel_rfl) (by kernel_rfl) (by kernel_rfl) (fun _ _ _ h => h) (Or.inl ⟨by rfl, fun wS hSw => ?_⟩) (by assumption) ?_
                · clear hHeld
                  clear hSw
                  go_simp
                try simp only [Act.put, List.setIfInBounds_toArray, List.set_cons_zero, List.set_cons_succ]
                refine wpAnyH_take (i := 1) (oi := { dst := some 110, op := Op.move (Operand.tmp 17), type := 3, pos := "law.go:285", after := #[], guard := none }) (v := .int .i64 (q : Int)) rfl (by kernel_rfl) (by kernel_rfl) (by kernel_rfl) (fun _ _ _ h => h) (Or.inl ⟨by rfl, fun wS hSw => ?_⟩) (by assumption) ?_
                · clear hHeld
                  clear hSw
                  go_simp
                try simp only [Act.put, List.setIfInBounds_toArray, List.set_cons_zero, List.set_cons_succ]
                refine wpAnyH_take (i := 2) (oi := { dst := some 111, op := Op.indexAddr 47 (Operand.tmp 109) (Operand.tmp 110), type := 0, pos := "law.go:285", after := #[{ on := 0, ground := Ground.data }, { on := 1, ground := Ground.data }], guard := none }) (v := .pointer (some ⟨x5, y5 + q * 2, none⟩)) rfl (by kernel_rfl) (by kernel_rfl) (by kernel_rfl) (fun _ _ _ h => h) (Or.inl ⟨by rfl, fun wS hSw => ?_⟩) (by assumption) ?_
                · clear hHeld
                  clear hSw
                  go_simp
                try simp only [Act.put, List.setIfInBounds_toArray, List.set_cons_zero, List.set_cons_succ]
                refine wpAnyH_take (i := 3) (oi := { dst := some 112, op := Op.load 69 (Operand.tmp 111), type := 69, pos := "law.go:285", after := #[{ on := 2, ground := Ground.data }], guard := none }) (v := .agg RX) rfl (by kernel_rfl) (by kernel_rfl) (by kernel_rfl) (fun _ _ _ h => h) (yieldsIf_load_arr Array.toArray_toList (by rfl) _ _ rfl _ _ rfl (fun _ h => h.1) u69 rfl iO) (by assumption) ?_
                try simp only [Act.put, List.setIfInBounds_toArray, List.set_cons_zero, List.set_cons_succ]
                refine wpAnyH_take (i := 4) (oi := { dst := some 113, op := Op.move (Operand.tmp 15), type := 47, pos := "law.go:285", after := #[], guard := none }) (v := .slice (some ⟨x6, y6, none⟩) n1 c2x) rfl (by kernel_rfl) (by kernel_rfl) (by kernel_rfl) (fun _ _ _ h => h) (Or.inl ⟨by rfl, fun wS hSw => ?_⟩) (by assumption) ?_
                · clear hHeld
                  clear hSw
                  go_simp
                try simp only [Act.put, List.setIfInBounds_toArray, List.set_cons_zero, List.set_cons_succ]
                refine wpAnyH_take (i := 5) (oi := { dst := some 114, op := Op.move (Operand.tmp 17), type := 3, pos := "law.go:285", after := #[], guard := none }) (v := .int .i64 (q : Int)) rfl (by kernel_rfl) (by kernel_rfl) (by kernel_rfl) (fun _ _ _ h => h) (Or.inl ⟨by rfl, fun wS hSw => ?_⟩) (by assumption) ?_
                · clear hHeld
                  clear hSw
                  go_simp
                try simp only [Act.put, List.setIfInBounds_toArray, List.set_cons_zero, List.set_cons_succ]
                refine wpAnyH_take (i := 6) (oi := { dst := some 115, op := Op.indexAddr 47 (Operand.tmp 113) (Operand.tmp 114), type := 0, pos := "law.go:285", after := #[{ on := 4, ground := Ground.data }, { on := 5, ground := Ground.data }], guard := none }) (v := .pointer (some ⟨x6, y6 + q * 2, none⟩)) rfl (by kernel_rfl) (by kernel_rfl) (by kernel_rfl) (fun _ _ _ h => h) (Or.inl ⟨by rfl, fun wS hSw => ?_⟩) (by assumption) ?_
                · clear hHeld
                  clear hSw
                  go_simp
                try simp only [Act.put, List.setIfInBounds_toArray, List.set_cons_zero, List.set_cons_succ]
                refine wpAnyH_take (i := 7) (oi := { dst := some 116, op := Op.load 69 (Operand.tmp 115), type := 69, pos := "law.go:285", after := #[{ on := 6, ground := Ground.data }], guard := none }) (v := .agg RX) rfl (by kernel_rfl) (by kernel_rfl) (by kernel_rfl) (fun _ _ _ h => h) (yieldsIf_load_arr Array.toArray_toList (by rfl) _ _ rfl _ _ rfl (fun _ h => h.2) u69 rfl iO) (by assumption) ?_
                try simp only [Act.put, List.setIfInBounds_toArray, List.set_cons_zero, List.set_cons_succ]
                refine wpAnyH_take (i := 8) (oi := { dst := some 117, op := Op.binOp BinOp.neq 69 (Operand.tmp 112) (Operand.tmp 116) 69, type := 4, pos := "law.go:285", after := #[{ on := 3, ground := Ground.data }, { on := 7, ground := Ground.data }], guard := none }) (v := .bool false) rfl (by kernel_rfl) (by kernel_rfl) (by kernel_rfl) (fun _ _ _ h => h) (Or.inl ⟨by rfl, fun wS hSw => ?_⟩) (by assumption) ?_
                · clear hHeld
                  have hee := HEq.out
                  clear hSw
                  go_simp
                try simp only [Act.put, List.setIfInBounds_toArray, List.set_cons_zero, List.set_cons_succ]
                have HXd := hid HX.out.drew
                refine wpAnyH_done (by kernel_rfl) ?_ _
                clear hHeld
                go_wp2_with fail
                go_roundw
                case rel => exact ⟨q + 1, by go_num, by omega, HXd.out⟩
                case measure => simp [intOf]; omega
              · obtain rfl : q = n1 := by omega
                have HTv := hid HX.out.tv
                obtain ⟨u, hu⟩ : ∃ u, v1 = u := ⟨_, rfl⟩
                rw [hu] at HTv
                clear hu HX
                go_wp2_with fail
                go_loopw [119] (fun i wr => ∃ k : Nat, i = .int .i64 (k : Int) ∧ k ≤ 64 ∧ Hid (Tv w wr c1 c2 u)) (fun i _ => 64 - (intOf i).toNat)
                case atStart => exact ⟨0, rfl, Nat.zero_le _, HTv.out⟩
                case round =>
                  clear HTv
                  obtain ⟨p, rfl, hp, HT⟩ := hrel
                  by_cases hlt : p < 64
                  · have hkz : (p : Int) < 64 := by omega
                    have HEb := hid (epoch_any c1 u (p : Int) _ HT.out.one)
                    have HEc := hid (epoch_any c2 u (p : Int) _ HT.out.two)
                    have HClb := hid (fun W h => claims_any c1 u (p : Int) W h)
                    have HClc := hid (fun W h => claims_any c2 u (p : Int) W h)
                    have heq := fun w => eq_bits (clsI u (p : Int)) (clsI u (p : Int)) w
                    rw [(sameB_iff _ _).2 (fun _ _ => rfl)] at heq
                    obtain ⟨y, hy⟩ : ∃ y, epI u (p : Int) = y := ⟨_, rfl⟩
                    obtain ⟨CX, hCX⟩ : ∃ x, cellsOf (clsI u (p : Int)) = x := ⟨_, rfl⟩
                    rw [hy] at HEb HEc
                    rw [hCX] at HClb HClc heq
                    have hyy : ((y : Int) != (y : Int)) = false := by simp
                    clear hy hCX
                    go_wp2_with fail
                    refine HEb.out.mono ?_; rintro r w8 ⟨rfl, rfl⟩
                    go_wp2_with fail
                    refine HEc.out.mono ?_; rintro r w8 ⟨rfl, rfl⟩
                    go_wp2_with fail
                    refine (HClb.out _ HT.out.one).mono ?_; rintro r w9 ⟨rfl, hb9⟩
                    have HT9 := hid (HT.out.call hb9)
                    clear hb9
                    go_wp2_with fail
                    refine (HClc.out _ HT9.out.two).mono ?_; rintro r wA ⟨rfl, hbA⟩
                    have HTA := hid (HT9.out.call hbA)
                    clear hbA
                    go_wp2_with fail
                    go_roundw
                    case rel => exact ⟨p + 1, by go_num, by omega, HTA.out⟩
                    case measure => simp [intOf]; omega
                  · obtain rfl : p = 64 := by omega
                    go_wp2_with fail
                    refine (HAl.out _ (HE.out.below HT.out.bel HE.out.room)).mono ?_; rintro r wz ⟨rfl, hbz⟩
                    have HWz := hid ((HT.out.bel).trans (hbz.mono (HT.out.bel).size))
                    clear hbz
                    go_wp2_with fail
                    go_ret
                    exact ⟨rfl, HWz.out⟩
  · have HNo1 := hid (HNo.out _ rfl hne)
    have hc0 : (newE self e != 0) = true := bne_iff_ne.2 hne
    obtain ⟨q, hq⟩ : ∃ q, newE self e = q := ⟨_, rfl⟩
    rw [hq] at HNo1 hc0
    clear HNo HNu HOk HMe HYe hne hq HFe HFo
    go_wp2_with (refine wpList_load_mid rfl 24 _ rfl w.heap.size 1 rfl _ _ k1 Tryz.underlying24 rfl iC ?_; rw [Array.toArray_toList])
    refine (HNo1.out _).mono ?_; rintro r w2 ⟨rfl, hb⟩
    have HW2 := hid (HW1.out.trans (hb.mono HW1.out.size))
    clear hb k0 k1 k2
    go_wp2_with fail
    refine (HAl.out _ (HE.out.below HW2.out HE.out.room)).mono ?_; rintro r wz ⟨rfl, hbz⟩
    have HWz := hid ((HW2.out).trans (hbz.mono (HW2.out).size))
    clear hbz
    go_wp2_with fail
    go_ret
    exact ⟨rfl, HWz.out⟩

end Go.Proofs.YtbfllifgmlkndaaGreatDoor

namespace Go.Proofs.YtbfllifgmlkndaaGreatDoor.busTwice
open Go.ChangeShapes Go.WideShapes Go.ChangeAt Go.RowKit
open Go.ChangeMaps (open_string shut_string)
open Slot

theorem own : ownKnob Tryz.prog.godebug = none := by kernel_rfl
theorem laidOut : laidOutB Tryz.prog = true := by kernel_rfl
set_option maxHeartbeats 4000000 in
set_option maxRecDepth 100000 in
theorem contract (H : Type) (enc : TypeId × Value → H) (W : World) (base : Nat) (args : Array Value) (ds gs : List (DataW H)) (before : List MemPlace)
    (hval : ∀ (j : Nat) t v, Tryz.f6.params[j]? = some t → args[j]? = some v → Value.okWide Tryz.prog W .any base t v)
    (hW : DataW.Whole enc Tryz.prog Tryz.f6.params.toList Rows.busTwiceSpec.vars false W args.toList ds gs before) (hsz0 : (DataW.weightsEach Tryz.prog (Tryz.f6.params.toList ++ Rows.busTwiceSpec.plain.varTypes Tryz.prog) (ds ++ gs)).all (· ≤ reachBytes) = true) (hL : laidMetH Tryz.prog listed W) (hk : Rows.uptoSmall H (ds ++ gs) = true) :
    Calls Tryz.prog 6 args W fun e W' => ∃ v, e = .returned v ∧ Rows.busTwiceSpec.post enc Tryz.prog Tryz.f6 false true false false W args v W' := by
  have hW' := hW
  obtain ⟨p, q, hA0, hV, rfl, hfz, hnd⟩ := hW
  have hA : DataW.TrodAll enc Tryz.prog W 0 (fun _ => true) true Tryz.f6.params.toList args.toList ds p := hA0
  have hsz : (DataW.weightsEach Tryz.prog (Tryz.f6.params.toList ++ Rows.busTwiceSpec.plain.varTypes Tryz.prog) (ds ++ gs)).all (· ≤ reachBytes) = true := hsz0
  clear hsz0
  rw [Tryz.params6] at hA hval hsz
  obtain ⟨v0, vs0, d0, ds0, p0, q0, hargs, rfl, rfl, h0, r0⟩ := trodAll_cons hA
  obtain ⟨v1, vs1, d1, ds1, p1, q1, rfl, rfl, rfl, h1, r1⟩ := trodAll_cons r0
  obtain ⟨v2, vs2, d2, ds2, p2, q2, rfl, rfl, rfl, h2, r2⟩ := trodAll_cons r1
  obtain ⟨rfl, rfl, rfl⟩ := trodAll_nil r2
  obtain rfl : args = #[v0, v1, v2] := by cases args; simp_all
  obtain ⟨rfl, rfl⟩ := trodVars_none hV
  obtain ⟨cs0, rfl, hsz0, _⟩ : ∃ cs, v0 = .agg cs ∧ cs.size = Tryz.prog.cellsOf 26 ∧ Row.okWide Tryz.prog W .any base 26 cs := by
    have := hval 0 26 v0 rfl rfl
    simpa [Value.okWide, Tryz.underlying26] using this
  have k0 := h0
  have lt0 : ∀ x ∈ p0, x.block < W.heap.size := by obtain ⟨m, hm⟩ := k0; exact DataW.trod_lt m _ _ _ hm
  obtain ⟨fuel0, hf0⟩ := h0
  obtain ⟨se0, S0, ep0, hq0, _⟩ := open_bb hsz0 hf0
  obtain ⟨a1, len1, cap1, rfl⟩ := okWide_slice Tryz.underlying27 (hval 1 27 v1 rfl rfl)
  have k1 := h1
  have lt1 : ∀ x ∈ p1, x.block < W.heap.size := by obtain ⟨m, hm⟩ := k1; exact DataW.trod_lt m _ _ _ hm
  obtain ⟨l1, hl1, ho1, hm1, hb1⟩ : ∃ l : List OpB, l.length = len1 ∧ OpsB W a1 l ∧ len1 ≤ 9223372036854775807 ∧ ∀ o ∈ l, o.s.length ≤ Rows.uptoBulk d1 := by obtain ⟨m, hm⟩ := h1; exact open_bops hm
  have hs1 : ∀ o ∈ l1, o.s.length ≤ 1048576 := fun o ho => by
    have h1 := hb1 o ho
    have hs := hk
    simp only [Rows.uptoSmall, Rows.uptoBulkAll, List.cons_append, List.nil_append, decide_eq_true_eq] at hs
    omega
  obtain ⟨s2, rfl, rfl, rfl, m2⟩ := open_string Tryz.underlying9 (hval 2 9 v2 rfl rfl) h2
  have rc2 : s2.data.toList.length ≤ 1048576 := by
    have hs := hk
    simp only [Rows.uptoSmall, Rows.uptoBulkAll, Rows.uptoBulk, List.cons_append, List.nil_append, decide_eq_true_eq] at hs
    omega
  obtain ⟨l2, hl2⟩ : ∃ l, l = s2.data.toList := ⟨_, rfl⟩
  obtain rfl : s2 = ⟨l2.toArray⟩ := by rw [hl2]
  rw [← hl2] at rc2
  clear hl2
  clear hA0
  have HC := twice_any se0 S0 ep0 a1 l1 len1 cap1 l2 W (env_of hL) hl1 ho1 hs1 hm1 rc2
  rw [← hq0] at HC
  refine HC.mono fun e W' ⟨he, bel⟩ => ?_
  subst he
  exact ⟨_, rfl, _, _, _, [], _, [], hW', trodAll_mk1 (shut_bool Tryz.underlying4 _), (trodAll_cons_mk (Below.trod laidOut (by kernel_rfl) (of_decide_eq_true (by kernel_rfl)) k0 bel lt0) (trodAll_cons_mk (Below.trod laidOut (by kernel_rfl) (of_decide_eq_true (by kernel_rfl)) k1 bel lt1) (trodAll_cons_mk (shut_string Tryz.underlying9 m2) trodAll_mk0))), rfl, bel.frame _, fun h => by cases h⟩
theorem reads (os : Os) {H : Type} (enc : TypeId × Value → H) : ∃ places, DataW.whole enc Tryz.prog ((laidWorld Tryz.prog os).forCall (fun _ _ => 0) ⟨#[], #[.agg zeroBB, .slice none 0 0, .string ⟨#[]⟩], []⟩).memory Tryz.f6.params.toList Rows.busTwiceSpec.vars false (#[.agg zeroBB, .slice none 0 0, .string ⟨#[]⟩] : Array Value).toList 8 = some ([zeroBBD, .nil, .lit (.string [])], [], places) :=
  ⟨[], by kernel_rfl⟩

set_option maxHeartbeats 4000000 in
set_option maxRecDepth 100000 in
theorem lifted (os : Os) (started : os.Started) (H : Type) (enc : TypeId × Value → H) (F : Stop.Interp) :
    ReturnsInHanded {} Tryz.checked os 6 .any ((Rows.OpenSpec.upto Rows.busTwiceSpec).preRow enc Tryz.prog Tryz.f6 Rows.busTwiceUptoRow.domain false Rows.busTwiceUptoRow.laid) (((Rows.OpenSpec.upto Rows.busTwiceSpec).at F).post enc Tryz.prog Tryz.f6 false true false false) := by
  obtain ⟨places, hx⟩ := reads os enc
  refine returnsInHanded_of_row (C := Tryz.checked) (s := Rows.OpenSpec.upto Rows.busTwiceSpec) own started (by kernel_rfl) Tryz.func6
    (witness_row_at (enc := enc) (C := Tryz.checked) false (laidWorld Tryz.prog os) #[.agg zeroBB, .slice none 0 0, .string ⟨#[]⟩] rfl (by kernel_rfl) (by kernel_rfl) (by kernel_rfl)
      (OpenSpec.preRow_of_cond 8 hx (by kernel_rfl) (fun k hk => by cases hk; kernel_rfl) (by kernel_rfl) (laid_met os _))) ?_
  intro W base args ds gs before hval hW _ hcond hsz hL _ _
  exact contract H enc W base args ds gs before hval hW hsz hL (hcond _ rfl)

theorem said : Rows.BusTwiceUptoSaid :=
  OpenClaim.holds_of_cond 6 Tryz.f6 rfl rfl rfl rfl rfl rfl rfl ⟨rfl, rfl, rfl, rfl, rfl⟩ rfl rfl rfl rfl rfl (by kernel_rfl) Tryz.func6 (by kernel_rfl)
    (of_decide_eq_true (by kernel_rfl)) (by unfold Func.isWrapper; first | (rw [if_pos (by decide +kernel)]; kernel_rfl) | (rw [if_neg (by decide +kernel)]; exact ⟨rfl, rfl⟩))
    (fun os started H enc _ F => by rw [OpenClaim.pre_eq_preRow]; exact lifted os started H enc F)

theorem plain (f : FuncId) (fn : Func) (hf : Tryz.pinned.checked.prog.funcNamed "marshalyard/marshalyardlaw16.BusTwice" = some f) (hfn : Tryz.pinned.checked.prog.funcs[f]? = some fn) :
    true = Tryz.pinned.checked.prog.looks [] ∧ ∀ (j : Nat) t, fn.params[j]? = some t → Tryz.pinned.checked.prog.wantsStandIn t = false := by
  obtain rfl : f = 6 := Option.some.inj ((show Tryz.prog.funcNamed "marshalyard/marshalyardlaw16.BusTwice" = some 6 by kernel_rfl).symm.trans hf) |>.symm
  obtain rfl : fn = Tryz.f6 := (Option.some.inj (Tryz.func6.symm.trans hfn)).symm
  refine ⟨by kernel_rfl, fun j t ht => ?_⟩
  rw [Tryz.params6] at ht
  have hm : t = 26 ∨ t = 27 ∨ t = 9 := by simpa using Array.mem_of_getElem? ht
  rcases hm with rfl | rfl | rfl
  · exact (show Tryz.prog.wantsStandIn 26 = false by kernel_rfl)
  · exact (show Tryz.prog.wantsStandIn 27 = false by kernel_rfl)
  · exact (show Tryz.prog.wantsStandIn 9 = false by kernel_rfl)

end Go.Proofs.YtbfllifgmlkndaaGreatDoor.busTwice
namespace Go.Proofs.YtbfllifgmlkndaaGreatDoor
open Go
/-- THE CARD -/
theorem busTwice_card : Rows.BusTwiceUptoCardSaid :=
  Claim7.holds_tied_plain_at .later [] _ _ _ _ busTwice.said (fun _ h => by cases h) (by kernel_rfl) (fun _ h => by cases h) busTwiceUpto_row_tie rfl ⟨rfl, rfl⟩ (by kernel_rfl) rfl busTwice.plain (by kernel_rfl)
#print axioms busTwice_card
end Go.Proofs.YtbfllifgmlkndaaGreatDoor
