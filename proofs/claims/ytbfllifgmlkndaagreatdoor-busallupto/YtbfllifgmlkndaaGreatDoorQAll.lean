/- Proved: whatever the begin and the script, every call is answered as the document says, and what goes out, and what is known, is what it says: the law BusAll returns true and leaves what came in as it was, where all that comes in holds together at most 1048576 values and letters; the listed variables are tied to the program's text. -/
import Derived.Test.YtbfllifgmlkndaaGreatDoorM48
import Derived.Test.YtbfllifgmlkndaaGreatDoorM46
import Derived.Test.YtbfllifgmlkndaaGreatDoorM49
import Derived.Test.YtbfllifgmlkndaaGreatDoorCards
import Derived.Test.YtbfllifgmlkndaaGreatDoorTie
import Derived.Test.YtbfllifgmlkndaaGreatDoorM17
import Derived.ProofKit
import Derived.OpenShut
import Derived.ShutString
import Derived.ChangeMaps5
import Derived.ChangeOld
import Derived.RowKit
import Derived.Deep.DeepHandedRow
import Derived.SizedLaws
namespace Go.Proofs.YtbfllifgmlkndaaGreatDoor
open Go.RowKit Go.Shelf
open Slot

/-- the law's way: a bus, and the document's in a box of its own -/
structure Al (w wr : World) (b vb rb me : Nat) (F : Nat → Prop) (v : Vw) (O : List (Int × Bs)) (RC RC2 : Array Value) (k : Nat) : Prop where
  bus : BB 7 wr F b vb v O
  ty : Ty wr F
  low : ∀ x, F x → w.heap.size ≤ x
  r : wr.heap[rb]? = some (.cells RC 41 (0, 0))
  rl : w.heap.size ≤ rb
  db : DB wr me RC2 v O
  ok : v.Ok k
  me_ : v.self = me
  ol : O.length ≤ 2 * k
  bel : Below w.heap.size w wr
theorem Al.call {w wr w' : World} {b vb rb me : Nat} {F : Nat → Prop} {v : Vw} {O : List (Int × Bs)} {RC RC2 : Array Value} {k : Nat} (h : Al w wr b vb rb me F v O RC RC2 k) (hb : Below wr.heap.size wr w') : Al w w' b vb rb me F v O RC RC2 k :=
  ⟨h.bus.call hb, h.ty.call hb, h.low, (hb.block _ (Array.getElem?_eq_some_iff.1 h.r).1).trans h.r, h.rl, h.db.call hb, h.ok, h.me_, h.ol, h.bel.trans (hb.mono h.bel.size)⟩
theorem Al.dk {w wr : World} {b vb rb me : Nat} {F : Nat → Prop} {v : Vw} {O : List (Int × Bs)} {RC RC2 : Array Value} {k : Nat} (h : Al w wr b vb rb me F v O RC RC2 k) (hE : Env w) (hk : k ≤ 1000) : ∃ g cap B1 u, RC2 = rbc me g cap v.cur u ∧ Dk 7 b vb F v O me g B1 v u O wr := by
  obtain ⟨g, cap, B1, u, e, hN, hO⟩ := h.db
  have hol := h.ol
  exact ⟨g, cap, B1, u, e, h.bus, h.ty, hE.below h.bel hE.room, Nat.le_refl _, h.ok.mono (by omega), by omega, h.me_, h.ok.mono (by omega), hN, hO, by omega⟩
theorem Al.does {w wr w' : World} {b vb rb me : Nat} {F : Nat → Prop} {v : Vw} {O : List (Int × Bs)} {RC RC2 : Array Value} {k : Nat} {o : OpB} {e : Ending} (h : Al w wr b vb rb me F v O RC RC2 k) (hd : DoesP 7 b vb F v O me v O o wr e w') :
    ∃ RC', e = .returned (.tuple #[.agg RC', .bool true]) ∧ ∃ F', Al w w' b vb rb me F' (bV v o) (bO v O o) RC RC' (k + 1) := by
  obtain ⟨RC', c, rfl, ⟨F', h1, h2, h3⟩, h4⟩ := hd
  obtain ⟨rfl, h5⟩ := h4 rfl rfl
  have hr : w'.heap[rb]? = some (.cells RC 41 (0, 0)) := (h3.block rb (Array.getElem?_eq_some_iff.1 h.r).1 (h.ty.not h.r (by decide) (by decide) (by decide))).trans h.r
  have hl := bO_len v O o
  have hol := h.ol
  exact ⟨RC', rfl, F', h1, h2, fun x hx => (h3.foot x hx).elim (h.low x) (fun c => Nat.le_trans h.bel.size c), hr, h.rl, h5, bV_ok h.ok o, (bV_self v o).trans h.me_, by omega, h.bel.trans (h3.below h.low h.bel.size)⟩
theorem Al.put {w wr : World} {b vb rb me : Nat} {F : Nat → Prop} {v : Vw} {O : List (Int × Bs)} {RC RC2 : Array Value} {k : Nat} (h : Al w wr b vb rb me F v O RC RC2 k) : Al w (wr.setRow rb RC2) b vb rb me F v O RC2 RC2 k := by
  have hn : ¬ F rb := h.ty.not h.r (by decide) (by decide) (by decide)
  exact ⟨h.bus.setRow hn _, h.ty.setRow hn _, h.low, setRow_heap _ _ _ _ _ _ h.r, h.rl, h.db.setRow h.r, h.ok, h.me_, h.ol, below_setRow h.bel h.rl _⟩
theorem al_new {w wr : World} {b vb me g cap : Nat} {F : Nat → Prop} {v : Vw} (hB : BB 7 wr F b vb v []) (hF : ∀ x, F x → w.heap.size ≤ x) (hW : Below w.heap.size w wr) (hN : Nd wr g v.ep v.cl) (hO : v.Ok 0) (hm : v.self = me) :
    ∃ F', Al w ((wr.alloc (.cells #[.int .i64 0, .slice none 0 0, .int .u64 0, .slice none 0 0] 41)).setRow wr.heap.size (rbc me g cap v.cur (.slice none 0 0))) b vb wr.heap.size me F' v [] (rbc me g cap v.cur (.slice none 0 0)) (rbc me g cap v.cur (.slice none 0 0)) 0 := by
  obtain ⟨F0, h1, h2, h3⟩ := bb_min hB
  have hb := below_setRow (g := wr.heap.size) (below_alloc wr (.cells #[.int .i64 0, .slice none 0 0, .int .u64 0, .slice none 0 0] 41)) (Nat.le_refl _) (rbc me g cap v.cur (.slice none 0 0))
  exact ⟨F0, h1.call hb, h3.call hb, fun x hx => hF x (h2 x hx), setRow_heap _ _ _ _ _ _ (heap_alloc_new wr _), hW.size, ⟨g, cap, 0, .slice none 0 0, rfl, hN.below hb hN.lt, World.ownsRow_nil _ _ _ _⟩, hO, hm, by simp, hW.trans (hb.mono hW.size)⟩
/-- what the last region reads -/
def S16 (rb : Nat) (a : Option Addr) (n c : Nat) (RV : Array Value) (W : World) : Prop := W.cell? ⟨rb, 3, none⟩ = some (.slice a n c) ∧ W.rangeAt rb 0 RV.toList
theorem s16_of {W : World} {rb me g cap cu n c : Nat} {a : Option Addr} (h : W.heap[rb]? = some (.cells (rbc me g cap cu (.slice a n c)) 41 (0, 0))) : S16 rb a n c (rvc me g cap cu) W :=
  ⟨cell_of_row _ _ 3 _ _ _ h, rbc_range h⟩
set_option maxHeartbeats 8000000 in
set_option maxRecDepth 100000 in
theorem all_any (self : Int) (S : Nat → Bool) (e : Nat) (a : Option Addr) (L : List OpB) (n c : Nat) (w : World) (hE : Env w) (hn : L.length = n) (hL : OpsB w a L) (hS : ∀ o ∈ L, o.s.length ≤ 1048576) (hm : n ≤ 9223372036854775807) :
    Calls Tryz.prog 3 #[.agg (bbCells self S e), .slice a n c] w fun e w' => e = .returned (.bool true) ∧ Below w.heap.size w w' := by
  have HB1 : Hid ((w.alloc (.cells (bbCells self S e) 26)).heap[w.heap.size]? = some (.cells (bbCells self S e) 26 (0, 0))) := heap_alloc_new w _
  have HW1 := hid (below_alloc w (.cells (bbCells self S e) 26))
  have HBc := hid (fun (W : World) (h : W.heap[w.heap.size]? = some (.cells (bbCells self S e) 26 (0, 0))) => bb_cells h)
  have iB := infoBB self S e
  have iC := infoBl (S := S)
  have hcs : (cellsOf S).toList.toArray = cellsOf S := Array.toArray_toList
  have HFe := hid (fun W (h : OpsB W a L) => fewb_any self S e a L n c W hn h hS hm)
  have HAl := hid (fun W (h : Env W) => balive_any W h)
  have HNo := hid (fun (q : Int) (h : newE self e = q) (hq : q ≠ 0) W => And.intro (unew_no self e S q W h hq) (rnew_no self e S q W h hq))
  have HYe : Hid (newE self e = 0 → ∃ s : Nat, self = (s : Int) ∧ s < 64 ∧ e ≤ 4611686018427387904) := fun h => newE_yes h
  have HNu := hid (fun (s : Nat) (hs : s < 64) (he : e ≤ 4611686018427387904) W (h : 7 ≤ W.heap.size) => unew_yes 7 s e S W h hs he)
  have HRn := hid (fun (s : Nat) (hs : s < 64) (he : e ≤ 4611686018427387904) W => rn_yes s e S W hs he)
  have HOk := hid (fun (s : Nat) (hs : s < 64) (he : e ≤ 4611686018427387904) => new_ok (self := s) (e := e) S hs he)
  have HMe : Hid (∀ s : Nat, (newV s S e).self = s) := fun _ => rfl
  have HE := hid hE
  have HL := hid hL
  have HN := hid hn
  have HS := hid hS
  obtain ⟨BC, hBC⟩ : ∃ C, bbCells self S e = C := ⟨_, rfl⟩
  rw [hBC] at HB1 HW1 HBc iB HFe ⊢
  obtain ⟨CS, hCS⟩ : ∃ C, cellsOf S = C := ⟨_, rfl⟩
  rw [hCS] at HBc iC hcs HNo HNu HRn
  clear hBC hCS hE hL hn hS
  go_enter Tryz.func3, Tryz.ntmps3
  go_upto_region 1 with fail
  generalize w.alloc (.cells BC 26) = w1 at *
  obtain ⟨k0, k1, k2⟩ := HBc.out _ HB1.out
  by_cases hne : newE self e = 0
  · obtain ⟨s, rfl, hs, he⟩ := HYe.out hne
    have HNu1 := hid (HNu.out s hs he)
    have HRn1 := hid (HRn.out s hs he)
    have HOk0 := hid (HOk.out s hs he)
    have HMe0 := hid (HMe.out s)
    obtain ⟨v, hv⟩ : ∃ v, newV s S e = v := ⟨_, rfl⟩
    rw [hv] at HNu1 HRn1 HOk0 HMe0
    clear HNu HRn HOk HMe HNo HYe hne hv hs he
    go_wp2_with (refine wpList_load_mid rfl 24 _ rfl w.heap.size 1 rfl _ _ k1 Tryz.underlying24 rfl iC ?_; rw [Array.toArray_toList])
    refine (HNu1.out _ (Nat.le_trans HE.out.room HW1.out.size)).mono ?_; rintro r w2 ⟨b, vb, F, rfl, hB, hF, hb⟩
    have HB2 := hid hB
    have HF2 : Hid (∀ x, F x → w.heap.size ≤ x) := fun x hx => Nat.le_trans HW1.out.size (hF x hx)
    have HW2 := hid (HW1.out.trans (hb.mono HW1.out.size))
    have HBg2 := hid ((hb.block _ (Array.getElem?_eq_some_iff.1 HB1.out).1).trans HB1.out)
    clear hB hF hb k0 k1 k2 HNu1 HB1
    obtain ⟨k0, k1, k2⟩ := HBc.out _ HBg2.out
    go_wp2_with (refine wpList_load_mid rfl 24 _ rfl w.heap.size 1 rfl _ _ k1 Tryz.underlying24 rfl iC ?_; rw [Array.toArray_toList])
    refine (HRn1.out _).mono ?_; rintro r w3 ⟨g, cap, rfl, hN3, hb⟩
    have HB3 := hid (HB2.out.call hb)
    have HW3 := hid (HW2.out.trans (hb.mono HW2.out.size))
    have HBg3 := hid ((hb.block _ (Array.getElem?_eq_some_iff.1 HBg2.out).1).trans HBg2.out)
    have HN3 := hid hN3
    have hbu := built_rb s g cap v.cur
    have HA0 := hid (fun W (h1 : BB 7 W F b vb v []) (h2 : Below w.heap.size w W) (h3 : Nd W g v.ep v.cl) => al_new (cap := cap) h1 HF2.out h2 h3 HOk0.out HMe0.out)
    obtain ⟨RV, hRV⟩ : ∃ C, rvc s g cap v.cur = C := ⟨_, rfl⟩
    have iV : (Tryz.prog.info? 34).map (·.size) = some RV.size := by rw [← hRV]; exact infoRV rfl
    have oV : RV.all (·.oneCell') = true := by rw [← hRV]; exact rvc_one _ _ _ _
    have zV : (#[.int .i64 0, .slice none 0 0, .int .u64 0] : Array Value).size = RV.size := by rw [← hRV]; rfl
    rw [hRV] at hbu ⊢
    obtain ⟨RC, hRC⟩ : ∃ C, rbc s g cap v.cur (.slice none 0 0) = C := ⟨_, rfl⟩
    have iR : (Tryz.prog.info? 41).map (·.size) = some RC.size := by rw [← hRC]; exact infoRB rfl
    have oR : RC.all (·.oneCell') = true := by rw [← hRC]; exact rbc_one _ _ _ _ _ rfl
    have zR : (#[.int .i64 0, .slice none 0 0, .int .u64 0, .slice none 0 0] : Array Value).size = RC.size := by rw [← hRC]; rfl
    rw [hRC] at hbu HA0
    have HZ3 := hid (heap_alloc_new w3 (.cells #[.int .i64 0, .slice none 0 0, .int .u64 0] 34))
    have hb4 := below_setRow (g := w3.heap.size) (below_alloc w3 (.cells #[.int .i64 0, .slice none 0 0, .int .u64 0] 34)) (Nat.le_refl _) RV
    have HV4 := hid (setRow_heap _ _ _ RV _ _ HZ3.out)
    have HB4 := hid (HB3.out.call hb4)
    have HW4 := hid (HW3.out.trans (hb4.mono HW3.out.size))
    have HBg4 := hid ((hb4.block _ (Array.getElem?_eq_some_iff.1 HBg3.out).1).trans HBg3.out)
    have HN4 := hid (HN3.out.below hb4 HN3.out.lt)
    clear hN3 hb hb4 hRV hRC k0 k1 k2 HRn1 HB2 HB3 HW2 HW3 HBg2 HBg3 HN3
    go_upto_region 3 with (refine wpList_store_row rfl 34 _ _ rfl w3.heap.size RV rfl rfl 34 _ HZ3.out iV zV oV ?_)
    clear HZ3
    generalize (w3.alloc (.cells #[.int .i64 0, .slice none 0 0, .int .u64 0] 34)).setRow w3.heap.size RV = w4 at *
    generalize w3.heap.size = xb at *
    go_wp2_with (refine wpList_load_want rfl 26 _ rfl w.heap.size rfl 26 _ (0, 0) _ HBg4.out Tryz.underlying26 rfl iB ?_)
    refine (HFe.out w4 (HL.out.below HW4.out (Nat.le_refl _))).mono ?_; rintro r w5 ⟨Bq, rfl, hBq, hb⟩
    have HB5 := hid (HB4.out.call hb)
    have HW5 := hid (HW4.out.trans (hb.mono HW4.out.size))
    have HN5 := hid (HN4.out.below hb HN4.out.lt)
    have HV5 := hid ((hb.block _ (Array.getElem?_eq_some_iff.1 HV4.out).1).trans HV4.out)
    have HQ := hid hBq
    have HE5 := hid (HE.out.below HW5.out HE.out.room)
    clear hb hBq HB4 HW4 HN4 HV4 HBg4 HFe
    cases Bq with
    | false =>
      go_wp2_with fail
      refine (HAl.out _ HE5.out).mono ?_; rintro r w6 ⟨rfl, hb⟩
      have HW6 := hid (HW5.out.trans (hb.mono HW5.out.size))
      clear hb
      go_wp2_with fail
      go_ret
      exact ⟨rfl, HW6.out⟩
    | true =>
      obtain ⟨q1, q2⟩ := HQ.out rfl
      have HQ2 := hid q2
      have hn40 : (n : Int) ≤ 40 := by have := HN.out; omega
      have HZ5 := hid (heap_alloc_new w5 (.cells #[.int .i64 0, .slice none 0 0, .int .u64 0, .slice none 0 0] 41))
      obtain ⟨F6, hA6⟩ := HA0.out w5 HB5.out HW5.out HN5.out
      have HA6 := hid hA6
      clear q1 q2 hA6 HQ HB5 HN5 HA0 HOk0 HMe0 HF2
      go_upto_region 8 with (first | (refine wpList_load_row rfl 34 _ rfl xb rfl 34 _ (0, 0) _ HV5.out Tryz.underlying34 rfl iV ?_) | (refine wpList_buildRB rfl _ rfl RV RC hbu rfl ?_) | (refine wpList_store_row rfl 41 _ _ rfl w5.heap.size RC rfl rfl 41 _ HZ5.out iR zR oR ?_))
      clear HZ5 HV5 iV oV zV hbu iR oR zR HE5 HW5 iB iC hcs HBc
      generalize (w5.alloc (.cells #[.int .i64 0, .slice none 0 0, .int .u64 0, .slice none 0 0] 41)).setRow w5.heap.size RC = w6 at *
      generalize w5.heap.size = rb at *
      go_wp2_with fail
      go_loopw [57] (fun i wr => ∃ k : Nat, k ≤ n ∧ i = .int .i64 k ∧ Hid (∃ F v O RC, Al w wr b vb rb s F v O RC RC k)) (fun i _ => n - (intOf i).toNat)
      case atStart => exact ⟨0, by omega, rfl, F6, v, [], RC, HA6.out⟩
      case round =>
        clear HA6
        obtain ⟨k, hk, rfl, HX⟩ := hrel
        obtain ⟨Fk, vk, Ok, Rk, hAk⟩ := HX.out
        have HAk := hid hAk
        clear HX hAk
        by_cases hlt : k < n
        · have hkz : (k : Int) < (n : Int) := by omega
          have hkL : k < L.length := by have := HN.out; omega
          obtain ⟨ob, oo, rfl, hbl, h1⟩ := HL.out (fun e => by rw [e] at hkL; exact absurd hkL (Nat.not_lt_zero _))
          obtain ⟨op, hop⟩ : ∃ op, L[k] = op := ⟨_, rfl⟩
          have g0 := h1 k hkL
          rw [hop] at g0
          have HSl : Hid (op.s.length ≤ 1048576) := HS.out op (by rw [← hop]; exact List.getElem_mem hkL)
          have HG : Hid (wr.rangeAt ob (oo + k * 5) (opbCells op).toList) := fun j v hv => by
            rw [HAk.out.bel.cell (p := ⟨ob, oo + k * 5 + j, none⟩) hbl]; exact g0 j v hv
          have iO := infoOpbl op
          have iO2 := infoOpb op
          have oO := opbCells_one op
          have hta : (opbCells op).toList.toArray = opbCells op := Array.toArray_toList
          have zO : (#[.int .i64 0, .int .i64 0, .int .i64 0, .int .u64 0, .string ⟨#[]⟩] : Array Value).size = (opbCells op).size := rfl
          have HZ7 := hid (heap_alloc_new wr (.cells #[.int .i64 0, .int .i64 0, .int .i64 0, .int .u64 0, .string ⟨#[]⟩] 43))
          have hb7 := below_setRow (g := wr.heap.size) (below_alloc wr (.cells #[.int .i64 0, .int .i64 0, .int .i64 0, .int .u64 0, .string ⟨#[]⟩] 43)) (Nat.le_refl _) (opbCells op)
          have HO7 := hid (setRow_heap _ _ _ (opbCells op) _ _ HZ7.out)
          have HA7 := hid (HAk.out.call hb7)
          have HDo := hid (fun g cap B1 u W (h : Dk 7 b vb Fk vk Ok s g B1 vk u Ok W) => does_any 7 b vb Fk vk Ok s g cap B1 vk u Ok op W h HSl.out (.inl rfl))
          obtain ⟨OC, hOC⟩ : ∃ C, opbCells op = C := ⟨_, rfl⟩
          rw [hOC] at HG iO iO2 oO hta zO HO7 HA7 HDo
          clear h1 g0 hop hkL hOC hb7 HAk
          go_upto_region 11 with (first | (refine wpList_load_mid rfl 43 _ rfl ob (oo + k * 5) rfl _ _ HG.out Tryz.underlying43 rfl iO ?_; rw [hta]) | (refine wpList_store_row rfl 43 _ _ rfl wr.heap.size OC rfl rfl 43 _ HZ7.out iO2 zO oO ?_))
          clear HZ7 HG iO oO hta zO
          generalize (wr.alloc (.cells #[.int .i64 0, .int .i64 0, .int .i64 0, .int .u64 0, .string ⟨#[]⟩] 43)).setRow wr.heap.size OC = w7 at *
          generalize wr.heap.size = xo at *
          obtain ⟨gk, capk, B1, u, eR, hdk⟩ := HA7.out.dk HE.out (by omega)
          have HDo7 := hid (HDo.out gk capk B1 u w7 hdk)
          have HR7 := hid HA7.out.r
          have iRk : (Tryz.prog.info? 41).map (·.size) = some Rk.size := HA7.out.db.one.2.2
          rw [← eR] at HDo7
          clear eR hdk HDo
          go_wp2_with (first | (refine wpList_load_row rfl 41 _ rfl rb rfl 41 _ (0, 0) _ HR7.out Tryz.underlying41 rfl iRk ?_) | (refine wpList_load_row rfl 43 _ rfl xo rfl 43 _ (0, 0) _ HO7.out Tryz.underlying43 rfl iO2 ?_))
          refine HDo7.out.mono ?_; rintro r w8 hd
          obtain ⟨RC', rfl, F8, hA8⟩ := HA7.out.does hd
          have HA8 := hid hA8
          obtain ⟨hs8, o8, i8⟩ := hA8.db.one
          have z8 : (#[.int .i64 0, .slice none 0 0, .int .u64 0, .slice none 0 0] : Array Value).size = RC'.size := hs8.symm
          have HZ8 := hid (heap_alloc_new w8 (.cells #[.int .i64 0, .slice none 0 0, .int .u64 0, .slice none 0 0] 41))
          have hb9 := below_setRow (g := w8.heap.size) (below_alloc w8 (.cells #[.int .i64 0, .slice none 0 0, .int .u64 0, .slice none 0 0] 41)) (Nat.le_refl _) RC'
          have HS9 := hid (setRow_heap _ _ _ RC' _ _ HZ8.out)
          have HA9 := hid (HA8.out.call hb9)
          have zk : Rk.size = RC'.size := by rw [hs8]; exact HA7.out.db.one.1
          clear hd hA8 hb9 HDo7 HR7 HO7 iO2 iRk HA8 hs8 HA7
          go_upto_region 12 with (refine wpList_store_row rfl 41 _ _ rfl w8.heap.size RC' rfl rfl 41 _ HZ8.out i8 z8 o8 ?_)
          clear HZ8 z8
          generalize (w8.alloc (.cells #[.int .i64 0, .slice none 0 0, .int .u64 0, .slice none 0 0] 41)).setRow w8.heap.size RC' = w9 at *
          generalize w8.heap.size = sb at *
          have HR9 := hid HA9.out.r
          have HAf := hid HA9.out.put
          go_wp2_with (first | (refine wpList_load_row rfl 41 _ rfl sb rfl 41 _ (0, 0) _ HS9.out Tryz.underlying41 rfl i8 ?_) | (refine wpList_store_row rfl 41 _ _ rfl rb RC' rfl rfl 41 _ HR9.out i8 zk o8 ?_))
          go_roundw
          case rel => exact ⟨k + 1, by omega, by go_num, _, _, _, _, HAf.out⟩
          case measure => simp [intOf]; omega
        · obtain rfl : k = n := by omega
          obtain ⟨gk, capk, B1, u, eR, hNk, hOk⟩ := HAk.out.db
          obtain ⟨a2, c2, rfl⟩ := out_shape hOk
          have HNk := hid hNk
          have HOk := hid hOk
          have HEr := hid (HE.out.below HAk.out.bel HE.out.room)
          have hrb := HAk.out.r
          rw [eR] at hrb
          have HRb := hid hrb
          have HTy := hid HAk.out.ty
          have HBk := hid HAk.out.bus
          have HWk := hid HAk.out.bel
          have HLow := hid HAk.out.low
          have HNR : Hid (¬ Fk rb) := HAk.out.ty.not HAk.out.r (by decide) (by decide) (by decide)
          have HOl : Hid (Ok.length ≤ 1000) := by have := HAk.out.ol; show _ ≤ _; omega
          have HMe : Hid (vk.self = s) := HAk.out.me_
          clear eR hNk hOk hrb HAk HL HN HS HQ2
          have HSm := hid (fun W a1 c1 (h1 : OutB W a1 Ok) (h2 : OutB W a2 Ok) => bsame_any a1 a2 Ok Ok.length c1 c2 W rfl h1 h2 (by have := HOl.out; omega))
          have HAk := hid (fun c W (h1 : VB W c vk) (h2 : Nd W gk vk.ep vk.cl) => alike_any c gk capk vk W h1 h2)
          rw [HMe.out] at HAk
          have hs0 := hid (s16_of HRb.out)
          have HS16 := hid (fun (W : World) (h : W.heap[rb]? = some (.cells (rbc s gk capk vk.cur (.slice a2 Ok.length c2)) 41 (0, 0))) => s16_of h)
          have i3 : (Tryz.prog.info? 34).map (·.size) = some (rvc s gk capk vk.cur).toList.length := infoRV rfl
          obtain ⟨RCk, hRCk⟩ : ∃ C, rbc s gk capk vk.cur (.slice a2 Ok.length c2) = C := ⟨_, rfl⟩
          obtain ⟨RVk, hRVk⟩ : ∃ C, rvc s gk capk vk.cur = C := ⟨_, rfl⟩
          rw [hRCk] at HRb HS16
          rw [hRVk] at HAk hs0 HS16 i3
          obtain ⟨no, hno⟩ : ∃ n, Ok.length = n := ⟨_, rfl⟩
          have HNo := hid hno
          rw [hno] at HSm hs0 HS16 HOk
          clear hRCk hRVk hno
          go_upto_region 16 with fail
          refine wp_region_held_drew (S := S16 rb a2 no c2 RVk) (by kernel_rfl) hs0.out (fun hHeld => ?_)
          clear hs0
          have u34 := Tryz.underlying34
          refine wpAnyH_ready (rs := [0]) (by kernel_rfl) (by simp) ?_
          refine AllReadyH.cons (o := { dst := some 72, op := Op.call { callee := Callee.value (Operand.func 10), args := #[], argTypes := #[] }, type := 4, pos := "law.go:123", after := #[], guard := none }) rfl (fun K hK => ?_) AllReadyH.nil
          clear hHeld
          go_simp
          refine (HAl.out wr.drew (HEr.out.below (Below.refl wr.heap.size wr).drew HEr.out.room)).mono ?_; rintro e x1 ⟨rfl, hb1⟩
          have hb1w : Below wr.heap.size wr x1 := ⟨hb1.os, hb1.tape, hb1.output, hb1.size, hb1.block⟩
          have HB1 := hid (HBk.out.call hb1w)
          have HT1 := hid (HTy.out.call hb1w)
          have HN1 := hid (HNk.out.below hb1w HNk.out.lt)
          have HO1 := hid (OutR.below HOk.out hb1w)
          have HR1 := hid ((hb1w.block _ (Array.getElem?_eq_some_iff.1 HRb.out).1).trans HRb.out)
          have HW1 := hid (HWk.out.trans (hb1w.mono HWk.out.size))
          have HOu := hid (uouts_any 7 b vb Fk vk Ok x1 HB1.out)
          clear hb1 hb1w HBk HTy HNk HOk HRb HWk HEr
          go_wp2_with fail
          refine hK.out _ _ (HS16.out _ HR1.out) (fun hHeld => ?_)
          clear hK K
          try simp only [Act.put, List.setIfInBounds_toArray, List.set_cons_zero, List.set_cons_succ]
          refine wpAnyH_take (i := 1) (oi := { dst := some 73, op := Op.move (Operand.tmp 72), type := 4, pos := "law.go:123", after := #[{ on := 0, ground := Ground.data }, { on := 0, ground := Ground.chain }], guard := none }) (v := .bool true) rfl (by kernel_rfl) (by kernel_rfl) (by kernel_rfl) (fun _ _ _ h => h) (Or.inl ⟨by rfl, fun wS hSw => ?_⟩) (by assumption) ?_
          · clear hHeld
            clear hSw
            go_simp
          try simp only [Act.put, List.setIfInBounds_toArray, List.set_cons_zero, List.set_cons_succ]
          refine wpAnyH_take (i := 2) (oi := { dst := some 74, op := Op.move (Operand.tmp 5), type := 28, pos := "law.go:123", after := #[{ on := 1, ground := Ground.guard }], guard := some (1, true) }) (v := .pointer (some ⟨b, 0, none⟩)) rfl (by kernel_rfl) (by kernel_rfl) (by kernel_rfl) (fun _ _ _ h => h) (Or.inl ⟨by rfl, fun wS hSw => ?_⟩) (by assumption) ?_
          · clear hHeld
            clear hSw
            go_simp
          try simp only [Act.put, List.setIfInBounds_toArray, List.set_cons_zero, List.set_cons_succ]
          refine wpAnyH_take (i := 4) (oi := { dst := some 76, op := Op.fieldAddr 41 (Operand.tmp 9) 1, type := 0, pos := "law.go:123", after := #[{ on := 1, ground := Ground.guard }], guard := some (1, true) }) (v := .pointer (some ⟨rb, 3, none⟩)) rfl (by kernel_rfl) (by kernel_rfl) (by kernel_rfl) (fun _ _ _ h => h) (Or.inl ⟨by rfl, fun wS hSw => ?_⟩) (by assumption) ?_
          · clear hHeld
            clear hSw
            go_simp
          try simp only [Act.put, List.setIfInBounds_toArray, List.set_cons_zero, List.set_cons_succ]
          refine wpAnyH_take (i := 5) (oi := { dst := some 77, op := Op.load 39 (Operand.tmp 76), type := 39, pos := "law.go:123", after := #[{ on := 4, ground := Ground.data }, { on := 1, ground := Ground.guard }], guard := some (1, true) }) (v := .slice a2 no c2) rfl (by kernel_rfl) (by kernel_rfl) (by kernel_rfl) (fun _ _ _ h => h) (Or.inl ⟨by rfl, fun wS hSw => ?_⟩) (by assumption) ?_
          · clear hHeld
            obtain ⟨s0, s1⟩ := hSw
            go_simp
          try simp only [Act.put, List.setIfInBounds_toArray, List.set_cons_zero, List.set_cons_succ]
          refine wpAnyH_ready (rs := [3]) (by kernel_rfl) (by simp) ?_
          refine AllReadyH.cons (o := { dst := some 75, op := Op.call { callee := Callee.value (Operand.func 13), args := #[Operand.tmp 74], argTypes := #[28] }, type := 47, pos := "law.go:123", after := #[{ on := 2, ground := Ground.data }, { on := 1, ground := Ground.chain }, { on := 1, ground := Ground.guard }], guard := some (1, true) }) rfl (fun K hK => ?_) AllReadyH.nil
          clear hHeld
          go_simp
          refine HOu.out.mono ?_; rintro e x2 ⟨a5, c5, rfl, ho5, -, F2, hB2, hK2, -⟩
          have HB2 := hid hB2
          have HN2 := hid (nd_kp HN1.out HT1.out hK2)
          have HO2 := hid (outr_slice (outr_kp HO1.out HT1.out hK2)).1
          have HR2 := hid ((hK2.block rb (Array.getElem?_eq_some_iff.1 HR1.out).1 HNR.out).trans HR1.out)
          have HF2 : Hid (∀ x, Fk x → w.heap.size ≤ x) := HLow.out
          have HW2 := hid (HW1.out.trans (hK2.below HF2.out HW1.out.size))
          have HSm2 := hid (HSm.out x2 a5 c5 ho5 HO2.out)
          rw [HNo.out]
          clear hB2 hK2 ho5 HB1 HT1 HN1 HO1 HR1 HW1 HOu HSm HO2
          go_wp2_with fail
          refine hK.out _ _ (HS16.out _ HR2.out) (fun hHeld => ?_)
          clear hK K
          try simp only [Act.put, List.setIfInBounds_toArray, List.set_cons_zero, List.set_cons_succ]
          refine wpAnyH_ready (rs := [6]) (by kernel_rfl) (by simp) ?_
          refine AllReadyH.cons (o := { dst := some 78, op := Op.call { callee := Callee.value (Operand.func 12), args := #[Operand.tmp 75, Operand.tmp 77], argTypes := #[47, 39] }, type := 4, pos := "law.go:123", after := #[{ on := 3, ground := Ground.data }, { on := 5, ground := Ground.data }, { on := 3, ground := Ground.chain }, { on := 1, ground := Ground.guard }], guard := some (1, true) }) rfl (fun K hK => ?_) AllReadyH.nil
          clear hHeld
          go_simp
          refine HSm2.out.mono ?_; rintro e x3 ⟨rfl, hb3⟩
          have HB3 := hid (HB2.out.call hb3)
          have HN3 := hid (HN2.out.below hb3 HN2.out.lt)
          have HR3 := hid ((hb3.block _ (Array.getElem?_eq_some_iff.1 HR2.out).1).trans HR2.out)
          have HW3 := hid (HW2.out.trans (hb3.mono HW2.out.size))
          have HVw := hid (uview_any 7 b vb F2 vk [] x3 HB3.out)
          clear hb3 HB2 HN2 HR2 HW2 HSm2
          go_wp2_with fail
          refine hK.out _ _ (HS16.out _ HR3.out) (fun hHeld => ?_)
          clear hK K
          try simp only [Act.put, List.setIfInBounds_toArray, List.set_cons_zero, List.set_cons_succ]
          refine wpAnyH_take (i := 7) (oi := { dst := some 79, op := Op.pick (Operand.tmp 73) (Operand.tmp 78) (Operand.const (Value.bool false)), type := 4, pos := "law.go:123", after := #[{ on := 1, ground := Ground.data }, { on := 6, ground := Ground.data }], guard := none }) (v := .bool true) rfl (by kernel_rfl) (by kernel_rfl) (by kernel_rfl) (fun _ _ _ h => h) (Or.inl ⟨by rfl, fun wS hSw => ?_⟩) (by assumption) ?_
          · clear hHeld
            clear hSw
            go_simp
          try simp only [Act.put, List.setIfInBounds_toArray, List.set_cons_zero, List.set_cons_succ]
          refine wpAnyH_take (i := 8) (oi := { dst := some 80, op := Op.move (Operand.tmp 79), type := 4, pos := "law.go:123", after := #[{ on := 7, ground := Ground.data }, { on := 6, ground := Ground.chain }], guard := none }) (v := .bool true) rfl (by kernel_rfl) (by kernel_rfl) (by kernel_rfl) (fun _ _ _ h => h) (Or.inl ⟨by rfl, fun wS hSw => ?_⟩) (by assumption) ?_
          · clear hHeld
            clear hSw
            go_simp
          try simp only [Act.put, List.setIfInBounds_toArray, List.set_cons_zero, List.set_cons_succ]
          refine wpAnyH_take (i := 9) (oi := { dst := some 81, op := Op.move (Operand.tmp 5), type := 28, pos := "law.go:123", after := #[{ on := 8, ground := Ground.guard }], guard := some (8, true) }) (v := .pointer (some ⟨b, 0, none⟩)) rfl (by kernel_rfl) (by kernel_rfl) (by kernel_rfl) (fun _ _ _ h => h) (Or.inl ⟨by rfl, fun wS hSw => ?_⟩) (by assumption) ?_
          · clear hHeld
            clear hSw
            go_simp
          try simp only [Act.put, List.setIfInBounds_toArray, List.set_cons_zero, List.set_cons_succ]
          refine wpAnyH_take (i := 11) (oi := { dst := some 83, op := Op.fieldAddr 41 (Operand.tmp 9) 0, type := 0, pos := "law.go:123", after := #[{ on := 8, ground := Ground.guard }], guard := some (8, true) }) (v := .pointer (some ⟨rb, 0, none⟩)) rfl (by kernel_rfl) (by kernel_rfl) (by kernel_rfl) (fun _ _ _ h => h) (Or.inl ⟨by rfl, fun wS hSw => ?_⟩) (by assumption) ?_
          · clear hHeld
            clear hSw
            go_simp
          try simp only [Act.put, List.setIfInBounds_toArray, List.set_cons_zero, List.set_cons_succ]
          refine wpAnyH_take (i := 12) (oi := { dst := some 84, op := Op.load 34 (Operand.tmp 83), type := 34, pos := "law.go:123", after := #[{ on := 11, ground := Ground.data }, { on := 8, ground := Ground.guard }], guard := some (8, true) }) (v := .agg RVk) rfl (by kernel_rfl) (by kernel_rfl) (by kernel_rfl) (fun _ _ _ h => h) (yieldsIf_load_arr Array.toArray_toList (by rfl) _ _ rfl _ _ rfl (fun _ h => h.2) u34 rfl i3) (by assumption) ?_
          try simp only [Act.put, List.setIfInBounds_toArray, List.set_cons_zero, List.set_cons_succ]
          refine wpAnyH_ready (rs := [10]) (by kernel_rfl) (by simp) ?_
          refine AllReadyH.cons (o := { dst := some 82, op := Op.call { callee := Callee.value (Operand.func 15), args := #[Operand.tmp 81], argTypes := #[28] }, type := 50, pos := "law.go:123", after := #[{ on := 9, ground := Ground.data }, { on := 8, ground := Ground.chain }, { on := 8, ground := Ground.guard }], guard := some (8, true) }) rfl (fun K hK => ?_) AllReadyH.nil
          clear hHeld
          go_simp
          refine HVw.out.mono ?_; rintro e x4 ⟨d, rfl, hv4, -, hb4⟩
          have HN4 := hid (HN3.out.below hb4 HN3.out.lt)
          have HR4 := hid ((hb4.block _ (Array.getElem?_eq_some_iff.1 HR3.out).1).trans HR3.out)
          have HW4 := hid (HW3.out.trans (hb4.mono HW3.out.size))
          have HAk4 := hid (HAk.out d x4 hv4 HN4.out)
          clear hb4 hv4 HB3 HN3 HR3 HW3 HVw
          go_wp2_with fail
          refine hK.out _ _ (HS16.out _ HR4.out) (fun hHeld => ?_)
          clear hK K
          try simp only [Act.put, List.setIfInBounds_toArray, List.set_cons_zero, List.set_cons_succ]
          refine wpAnyH_ready (rs := [13]) (by kernel_rfl) (by simp) ?_
          refine AllReadyH.cons (o := { dst := some 85, op := Op.call { callee := Callee.value (Operand.func 14), args := #[Operand.tmp 82, Operand.tmp 84], argTypes := #[50, 34] }, type := 4, pos := "law.go:123", after := #[{ on := 10, ground := Ground.data }, { on := 12, ground := Ground.data }, { on := 10, ground := Ground.chain }, { on := 8, ground := Ground.guard }], guard := some (8, true) }) rfl (fun K hK => ?_) AllReadyH.nil
          clear hHeld
          go_simp
          refine HAk4.out.mono ?_; rintro e x5 ⟨rfl, hb5⟩
          have HR5 := hid ((hb5.block _ (Array.getElem?_eq_some_iff.1 HR4.out).1).trans HR4.out)
          have HW5 := hid (HW4.out.trans (hb5.mono HW4.out.size))
          clear hb5 HN4 HR4 HW4 HAk4
          go_wp2_with fail
          refine hK.out _ _ (HS16.out _ HR5.out) (fun hHeld => ?_)
          clear hK K
          try simp only [Act.put, List.setIfInBounds_toArray, List.set_cons_zero, List.set_cons_succ]
          refine wpAnyH_take (i := 14) (oi := { dst := some 86, op := Op.pick (Operand.tmp 80) (Operand.tmp 85) (Operand.const (Value.bool false)), type := 4, pos := "law.go:123", after := #[{ on := 8, ground := Ground.data }, { on := 13, ground := Ground.data }], guard := none }) (v := .bool true) rfl (by kernel_rfl) (by kernel_rfl) (by kernel_rfl) (fun _ _ _ h => h) (Or.inl ⟨by rfl, fun wS hSw => ?_⟩) (by assumption) ?_
          · clear hHeld
            clear hSw
            go_simp
          try simp only [Act.put, List.setIfInBounds_toArray, List.set_cons_zero, List.set_cons_succ]
          refine wpAnyH_ready (rs := [15]) (by kernel_rfl) (by simp) ?_
          refine AllReadyH.cons (o := { dst := some 4, op := Op.assign (Operand.tmp 86), type := 4, pos := "law.go:123", after := #[{ on := 14, ground := Ground.data }, { on := 13, ground := Ground.chain }, { on := 0, ground := Ground.phase }, { on := 1, ground := Ground.phase }, { on := 2, ground := Ground.phase }, { on := 3, ground := Ground.phase }, { on := 4, ground := Ground.phase }, { on := 5, ground := Ground.phase }, { on := 6, ground := Ground.phase }, { on := 7, ground := Ground.phase }, { on := 8, ground := Ground.phase }, { on := 9, ground := Ground.phase }, { on := 10, ground := Ground.phase }, { on := 11, ground := Ground.phase }, { on := 12, ground := Ground.phase }, { on := 13, ground := Ground.phase }, { on := 14, ground := Ground.phase }], guard := none }) rfl (fun K hK => ?_) AllReadyH.nil
          clear hHeld
          go_simp
          refine hK.out _ _ (HS16.out _ HR5.out) (fun hHeld => ?_)
          clear hK K
          try simp only [Act.put, List.setIfInBounds_toArray, List.set_cons_zero, List.set_cons_succ]
          refine wpAnyH_done (by kernel_rfl) ?_ _
          clear hHeld
          go_wp2_with fail
          go_ret
          exact ⟨rfl, HW5.out⟩
  · have HNo1 := hid (HNo.out _ rfl hne)
    have hc0 : (newE self e == 0) = false := beq_eq_false_iff_ne.2 hne
    obtain ⟨q, hq⟩ : ∃ q, newE self e = q := ⟨_, rfl⟩
    rw [hq] at HNo1 hc0
    have hcc : (q != q) = false := by simp
    clear HNo HNu HRn HOk HMe HYe hne hq HFe
    go_wp2_with (refine wpList_load_mid rfl 24 _ rfl w.heap.size 1 rfl _ _ k1 Tryz.underlying24 rfl iC ?_; rw [Array.toArray_toList])
    refine (HNo1.out _).1.mono ?_; rintro r w2 ⟨rfl, hb⟩
    have HW2 := hid (HW1.out.trans (hb.mono HW1.out.size))
    have HBg2 := hid ((hb.block _ (Array.getElem?_eq_some_iff.1 HB1.out).1).trans HB1.out)
    clear hb k0 k1 k2 HB1
    obtain ⟨k0, k1, k2⟩ := HBc.out _ HBg2.out
    go_wp2_with (refine wpList_load_mid rfl 24 _ rfl w.heap.size 1 rfl _ _ k1 Tryz.underlying24 rfl iC ?_; rw [Array.toArray_toList])
    refine (HNo1.out _).2.mono ?_; rintro r w3 ⟨rfl, hb⟩
    have HW3 := hid (HW2.out.trans (hb.mono HW2.out.size))
    have HZ3 := hid (heap_alloc_new w3 (.cells #[.int .i64 0, .slice none 0 0, .int .u64 0] 34))
    have HW4 := hid (below_setRow (g := w3.heap.size) (HW3.out.alloc HW3.out.size (.cells #[.int .i64 0, .slice none 0 0, .int .u64 0] 34)) HW3.out.size zrv)
    have HE4 := hid (HE.out.below HW4.out HE.out.room)
    have iV : (Tryz.prog.info? 34).map (·.size) = some zrv.size := infoRV rfl
    have oV : zrv.all (·.oneCell') = true := by simp [zrv, Value.oneCell']
    have zV : (#[.int .i64 0, .slice none 0 0, .int .u64 0] : Array Value).size = zrv.size := rfl
    clear hb k0 k1 k2 HBg2
    go_upto_region 3 with (refine wpList_store_row rfl 34 _ _ rfl w3.heap.size zrv rfl rfl 34 _ HZ3.out iV zV oV ?_)
    clear HZ3
    generalize (w3.alloc (.cells #[.int .i64 0, .slice none 0 0, .int .u64 0] 34)).setRow w3.heap.size zrv = w4 at *
    go_wp2_with fail
    refine (HAl.out _ HE4.out).mono ?_; rintro r w5 ⟨rfl, hb⟩
    have HW5 := hid (HW4.out.trans (hb.mono HW4.out.size))
    clear hb
    go_wp2_with fail
    go_ret
    exact ⟨rfl, HW5.out⟩

end Go.Proofs.YtbfllifgmlkndaaGreatDoor

namespace Go.Proofs.YtbfllifgmlkndaaGreatDoor.busAll
open Go.ChangeShapes Go.WideShapes Go.ChangeAt Go.RowKit
open Go.ChangeMaps (open_string shut_string)
open Slot

theorem own : ownKnob Tryz.prog.godebug = none := by kernel_rfl
theorem laidOut : laidOutB Tryz.prog = true := by kernel_rfl
set_option maxHeartbeats 4000000 in
set_option maxRecDepth 100000 in
theorem contract (H : Type) (enc : TypeId × Value → H) (W : World) (base : Nat) (args : Array Value) (ds gs : List (DataW H)) (before : List MemPlace)
    (hval : ∀ (j : Nat) t v, Tryz.f3.params[j]? = some t → args[j]? = some v → Value.okWide Tryz.prog W .any base t v)
    (hW : DataW.Whole enc Tryz.prog Tryz.f3.params.toList Rows.busAllSpec.vars false W args.toList ds gs before) (hsz0 : (DataW.weightsEach Tryz.prog (Tryz.f3.params.toList ++ Rows.busAllSpec.plain.varTypes Tryz.prog) (ds ++ gs)).all (· ≤ reachBytes) = true) (hL : laidMetH Tryz.prog listed W) (hk : Rows.uptoSmall H (ds ++ gs) = true) :
    Calls Tryz.prog 3 args W fun e W' => ∃ v, e = .returned v ∧ Rows.busAllSpec.post enc Tryz.prog Tryz.f3 false true false false W args v W' := by
  have hW' := hW
  obtain ⟨p, q, hA0, hV, rfl, hfz, hnd⟩ := hW
  have hA : DataW.TrodAll enc Tryz.prog W 0 (fun _ => true) true Tryz.f3.params.toList args.toList ds p := hA0
  have hsz : (DataW.weightsEach Tryz.prog (Tryz.f3.params.toList ++ Rows.busAllSpec.plain.varTypes Tryz.prog) (ds ++ gs)).all (· ≤ reachBytes) = true := hsz0
  clear hsz0
  rw [Tryz.params3] at hA hval hsz
  obtain ⟨v0, vs0, d0, ds0, p0, q0, hargs, rfl, rfl, h0, r0⟩ := trodAll_cons hA
  obtain ⟨v1, vs1, d1, ds1, p1, q1, rfl, rfl, rfl, h1, r1⟩ := trodAll_cons r0
  obtain ⟨rfl, rfl, rfl⟩ := trodAll_nil r1
  obtain rfl : args = #[v0, v1] := by cases args; simp_all
  obtain ⟨rfl, rfl⟩ := trodVars_none hV
  obtain ⟨cs0, rfl, hsz0, _⟩ : ∃ cs, v0 = .agg cs ∧ cs.size = Tryz.prog.cellsOf 26 ∧ Row.okWide Tryz.prog W .any base 26 cs := by
    have := hval 0 26 v0 rfl rfl
    simpa [Value.okWide, Tryz.underlying26] using this
  have k0 := h0
  have lt0 : ∀ x ∈ p0, x.block < W.heap.size := by obtain ⟨m, hm⟩ := k0; exact DataW.trod_lt m _ _ _ hm
  obtain ⟨fuel0, hf0⟩ := h0
  obtain ⟨se0, S0, ep0, hq0, _⟩ := open_bb hsz0 hf0
  obtain ⟨a1, len1, cap1, rfl⟩ := okWide_slice Tryz.underlying27 (hval 1 27 v1 rfl rfl)
  have k1 := h1
  have lt1 : ∀ x ∈ p1, x.block < W.heap.size := by obtain ⟨m, hm⟩ := k1; exact DataW.trod_lt m _ _ _ hm
  obtain ⟨l1, hl1, ho1, hm1, hb1⟩ : ∃ l : List OpB, l.length = len1 ∧ OpsB W a1 l ∧ len1 ≤ 9223372036854775807 ∧ ∀ o ∈ l, o.s.length ≤ Rows.uptoBulk d1 := by obtain ⟨m, hm⟩ := h1; exact open_bops hm
  have hs1 : ∀ o ∈ l1, o.s.length ≤ 1048576 := fun o ho => by
    have h1 := hb1 o ho
    have hs := hk
    simp only [Rows.uptoSmall, Rows.uptoBulkAll, List.cons_append, List.nil_append, decide_eq_true_eq] at hs
    omega
  clear hA0
  have HC := all_any se0 S0 ep0 a1 l1 len1 cap1 W (env_of hL) hl1 ho1 hs1 hm1
  rw [← hq0] at HC
  refine HC.mono fun e W' ⟨he, bel⟩ => ?_
  subst he
  exact ⟨_, rfl, _, _, _, [], _, [], hW', trodAll_mk1 (shut_bool Tryz.underlying4 _), (trodAll_cons_mk (Below.trod laidOut (by kernel_rfl) (of_decide_eq_true (by kernel_rfl)) k0 bel lt0) (trodAll_cons_mk (Below.trod laidOut (by kernel_rfl) (of_decide_eq_true (by kernel_rfl)) k1 bel lt1) trodAll_mk0)), rfl, bel.frame _, fun h => by cases h⟩
theorem reads (os : Os) {H : Type} (enc : TypeId × Value → H) : ∃ places, DataW.whole enc Tryz.prog ((laidWorld Tryz.prog os).forCall (fun _ _ => 0) ⟨#[], #[.agg zeroBB, .slice none 0 0], []⟩).memory Tryz.f3.params.toList Rows.busAllSpec.vars false (#[.agg zeroBB, .slice none 0 0] : Array Value).toList 8 = some ([zeroBBD, .nil], [], places) :=
  ⟨[], by kernel_rfl⟩

set_option maxHeartbeats 4000000 in
set_option maxRecDepth 100000 in
theorem lifted (os : Os) (started : os.Started) (H : Type) (enc : TypeId × Value → H) (F : Stop.Interp) :
    ReturnsInHanded {} Tryz.checked os 3 .any ((Rows.OpenSpec.upto Rows.busAllSpec).preRow enc Tryz.prog Tryz.f3 Rows.busAllUptoRow.domain false Rows.busAllUptoRow.laid) (((Rows.OpenSpec.upto Rows.busAllSpec).at F).post enc Tryz.prog Tryz.f3 false true false false) := by
  obtain ⟨places, hx⟩ := reads os enc
  refine returnsInHanded_of_row (C := Tryz.checked) (s := Rows.OpenSpec.upto Rows.busAllSpec) own started (by kernel_rfl) Tryz.func3
    (witness_row_at (enc := enc) (C := Tryz.checked) false (laidWorld Tryz.prog os) #[.agg zeroBB, .slice none 0 0] rfl (by kernel_rfl) (by kernel_rfl) (by kernel_rfl)
      (OpenSpec.preRow_of_cond 8 hx (by kernel_rfl) (fun k hk => by cases hk; kernel_rfl) (by kernel_rfl) (laid_met os _))) ?_
  intro W base args ds gs before hval hW _ hcond hsz hL _ _
  exact contract H enc W base args ds gs before hval hW hsz hL (hcond _ rfl)

theorem said : Rows.BusAllUptoSaid :=
  OpenClaim.holds_of_cond 3 Tryz.f3 rfl rfl rfl rfl rfl rfl rfl ⟨rfl, rfl, rfl, rfl, rfl⟩ rfl rfl rfl rfl rfl (by kernel_rfl) Tryz.func3 (by kernel_rfl)
    (of_decide_eq_true (by kernel_rfl)) (by unfold Func.isWrapper; first | (rw [if_pos (by decide +kernel)]; kernel_rfl) | (rw [if_neg (by decide +kernel)]; exact ⟨rfl, rfl⟩))
    (fun os started H enc _ F => by rw [OpenClaim.pre_eq_preRow]; exact lifted os started H enc F)

theorem plain (f : FuncId) (fn : Func) (hf : Tryz.pinned.checked.prog.funcNamed "marshalyard/marshalyardlaw16.BusAll" = some f) (hfn : Tryz.pinned.checked.prog.funcs[f]? = some fn) :
    true = Tryz.pinned.checked.prog.looks [] ∧ ∀ (j : Nat) t, fn.params[j]? = some t → Tryz.pinned.checked.prog.wantsStandIn t = false := by
  obtain rfl : f = 3 := Option.some.inj ((show Tryz.prog.funcNamed "marshalyard/marshalyardlaw16.BusAll" = some 3 by kernel_rfl).symm.trans hf) |>.symm
  obtain rfl : fn = Tryz.f3 := (Option.some.inj (Tryz.func3.symm.trans hfn)).symm
  refine ⟨by kernel_rfl, fun j t ht => ?_⟩
  rw [Tryz.params3] at ht
  have hm : t = 26 ∨ t = 27 := by simpa using Array.mem_of_getElem? ht
  rcases hm with rfl | rfl
  · exact (show Tryz.prog.wantsStandIn 26 = false by kernel_rfl)
  · exact (show Tryz.prog.wantsStandIn 27 = false by kernel_rfl)

end Go.Proofs.YtbfllifgmlkndaaGreatDoor.busAll
namespace Go.Proofs.YtbfllifgmlkndaaGreatDoor
open Go
/-- THE CARD -/
theorem busAll_card : Rows.BusAllUptoCardSaid :=
  Claim7.holds_tied_plain_at .later [] _ _ _ _ busAll.said (fun _ h => by cases h) (by kernel_rfl) (fun _ h => by cases h) busAllUpto_row_tie rfl ⟨rfl, rfl⟩ (by kernel_rfl) rfl busAll.plain (by kernel_rfl)
#print axioms busAll_card
end Go.Proofs.YtbfllifgmlkndaaGreatDoor
