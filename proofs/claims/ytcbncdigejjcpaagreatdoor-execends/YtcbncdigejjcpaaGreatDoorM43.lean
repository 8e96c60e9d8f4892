/- XF, XG. -/
import Derived.Test.YtcbncdigejjcpaaGreatDoorM41
import Derived.Test.YtcbncdigejjcpaaGreatDoorM15
namespace Go.Proofs.YtcbncdigejjcpaaGreatDoor.Ex
open Re (Rep)
open Go.RowKit

/-- what change makes of the list, and answers -/
noncomputable def chM (L : List EP) (room now : Int) (k : Nm) (K : Int) (m : Vl) (r : Rep) : List EP × Rep := if otherK L k K then (L, fault fType) else if r.kind = 2 then (L, r) else withM room now L (k, m, endOf L k) r
theorem withM_put {L : List EP} {room now : Int} {x : EP} {r : Rep} (h : emptyV x.2.1 = false) : withM room now L x r = (putLL L room now x, putR L room now x r) := by
  unfold withM putR putLL
  rw [h]
  by_cases h0 : putEL L room now x = 0
  · rw [if_neg (by decide), if_neg (by rw [h0]; decide), if_neg (by rw [h0]; decide), if_pos h0, if_pos h0]
  · rw [if_neg (by decide), if_neg h0, if_neg h0]
    by_cases h1 : putEL L room now x = 110
    · rw [if_pos h1, if_pos h1]
    · rw [if_neg h1, if_neg h1, if_pos h0]
/-- a closure that works on a value -/
def Work (w : World) (F : Nat) (cb : Array Value) (is : Bool) (x : EP) (m : Vl) (r : Rep) : Prop := ∀ (N : Nat) (W : World) (be : Nat) (y : E8), w.heap.size ≤ N → Below w.heap.size w W → N ≤ be → W.heap[be]? = some (.cells y.cells 51 (0, 0)) → pr8 y = x → OwnEn N W y →
  Calls Tryz.prog F (#[.pointer (some ⟨be, 1, none⟩), .bool is] ++ cb) W fun e w' => ∃ q d, e = .returned (rval r q d) ∧ Hid (∃ y' : E8, Re.Rp (fun k => W.heap.size ≤ k) w' 2 (rval r q d) r ∧ w'.heap[be]? = some (.cells y'.cells 51 (0, 0)) ∧ (r.kind ≠ 2 → pr8 y' = (x.1, m, x.2.2)) ∧ Lies (fun k => N ≤ k) w' y' ∧ Below N W w')
/-- what may be put -/
structure Puts (m : Vl) : Prop where
  came : Came m
  pairs : m.pairs.length * 32 ≤ 140737488351232
  items : m.items.length * 16 ≤ 140737488351232
  emp : emptyV m = (decide (m.kind = 2 ∨ m.kind = 3 ∨ m.kind = 4) && (m.pairs.isEmpty && m.items.isEmpty))
theorem al_rep (w : World) (r : Rep) (q : Option Addr) (d : Nat) : (w.alloc (rob r q d)).heap[w.heap.size]? = some (rob r q d) := heap_alloc_new w _
set_option maxHeartbeats 8000000 in
set_option maxRecDepth 100000 in
/-- change -/
theorem change_any {B : Nat} {w : World} {b : Nat} {O A : Nat → Prop} {L : List EP} {room now : Int} (h : Sp B w b O A L room now) (nm : Nm) (g o n c : Nat) (k : Nm) (K : Int) (F : Nat) (cb : Array Value) (m : Vl) (r : Rep) (eg : ∀ args w, (callFunc F args).run Tryz.prog w = .ok (.enter F args) w) (hn : 0 < n) (hk : w.cell? ⟨g, o, none⟩ = some (txt k)) (hkl : k.length ≤ 140737488351232)
    (hW : otherK L k K = false → Work w F cb (isIn L k) (k, curV L k K, endOf L k) m r) (hm : otherK L k K = false → r.kind ≠ 2 → Puts m) :
    Calls Tryz.prog 73 #[cv b nm (some ⟨g, o, none⟩) n c, .int .i64 K, .func (.func F) #[] cb] w fun e w' => ∃ q d, e = .returned (rval (chM L room now k K m r).2 q d) ∧ Hid (Post B (fun k => w.heap.size ≤ k) w b O A room now (chM L room now k K m r).1 (chM L room now k K m r).2 w' (rval (chM L room now k K m r).2 q d)) := by
  have HA := hid (al_two w (cob b nm (some ⟨g, o, none⟩) n c) rob0)
  have hgl := block_lt_of_cell hk
  have HE := hid (entry_any (h.below HA.out.1) nm g o n c k K hn (cell_turn hk (HA.out.1.block g hgl)) hkl)
  obtain ⟨x0, x1, x2⟩ := call_facts HA.out.2.1
  have HW := hid hW
  have HM := hid hm
  have HS := hid h
  have Hk := hid hk
  have HK := hid (fun W h => key_any b nm g o n c k W hn h)
  have HKL := hid hkl
  have hck := cur_kind L k K
  have HEN : Hid (In64 (endOf L k)) := by
    unfold Hid endOf
    cases hg : getL k L with
    | none => exact ⟨by decide, by decide⟩
    | some x =>
      have := h.fine.good x (List.mem_of_find?_eq_some hg)
      exact ⟨by show _ ≤ x.2.2; omega, by show x.2.2 ≤ _; omega⟩
  obtain ⟨C, hC⟩ : ∃ C, C = chM L room now k K m r := ⟨_, rfl⟩
  have HC := hid (show C = if otherK L k K then (L, fault fType) else if r.kind = 2 then (L, r) else withM room now L (k, m, endOf L k) r from hC)
  rw [← hC]
  obtain ⟨is, his⟩ : ∃ is, is = isIn L k := ⟨_, rfl⟩
  obtain ⟨ok, hok⟩ : ∃ ok, ok = otherK L k K := ⟨_, rfl⟩
  rw [← hok] at hck HW HM HC
  rw [← his] at HW HE
  clear h hk hW hm hok his hC hkl
  go_enter Tryz.func73, Tryz.ntmps73
  go_wp2_with fail
  refine HE.out.mono ?_; rintro e w1 ⟨y, rfl, hh⟩
  obtain ⟨hy, hoy, hb1⟩ := hh.out
  rw [HA.out.2.2.2] at hoy
  have hkd : (y.m.kind == K) = !ok := by rw [← hck, ← show y.m = curV L k K from congrArg (fun e => e.2.1) hy]
  have hs1 : w.heap.size + 2 ≤ w1.heap.size := by have := hb1.size; rw [HA.out.2.2.2] at this; exact this
  have HBE := hid (below_alloc w1 (eob y))
  have HB1 := hid (HA.out.1.trans (hb1.mono HA.out.1.size))
  have HB2 := hid (HB1.out.trans (HBE.out.mono HB1.out.size))
  have HZ2 := hid ((HBE.out.block (w.heap.size + 1) (by omega)).trans ((hb1.block (w.heap.size + 1) (by rw [HA.out.2.2.2]; omega)).trans HA.out.2.2.1))
  have HC2 := hid ((HBE.out.block w.heap.size (by omega)).trans ((hb1.block w.heap.size (by rw [HA.out.2.2.2]; omega)).trans HA.out.2.1))
  have HY := hid hy
  have HOY := hid (hoy.below HBE.out)
  rw [hkd]
  have HE1 := hid (heap_alloc_new w1 (eob y))
  have hs2 : (w1.alloc (eob y)).heap.size = w1.heap.size + 1 := by simp
  clear hh hy hoy hb1 hkd hck x0 x1 x2
  cases ok
  · rw [Bool.not_false]
    replace HW := hid (HW.out rfl (w.heap.size + 2) (w1.alloc (eob y)) w1.heap.size y (by omega) HB2.out hs1 HE1.out HY.out HOY.out)
    replace HM := hid (HM.out rfl)
    replace HC := hid (show C = if r.kind = 2 then (L, r) else withM room now L (k, m, endOf L k) r from HC.out)
    go_wp2_with fail
    refine HW.out.mono ?_; rintro e w3 ⟨q, d, rfl, hh⟩
    obtain ⟨y', hr3, he3, hy3, hl3, hb3⟩ := hh.out
    rw [hs2] at hr3
    have hs3 : w1.heap.size + 1 ≤ w3.heap.size := by have := hb3.size; rw [hs2] at this; exact this
    have HBR := hid (below_alloc w3 (rob r q d))
    have HR4 := hid (al_rep w3 r q d)
    have HZ4 := hid ((HBR.out.block (w.heap.size + 1) (by omega)).trans ((hb3.block (w.heap.size + 1) (by omega)).trans HZ2.out))
    have HC4 := hid ((HBR.out.block w.heap.size (by omega)).trans ((hb3.block w.heap.size (by omega)).trans HC2.out))
    have HE4 := hid ((HBR.out.block w1.heap.size (by omega)).trans he3)
    have HB3 := hid (HB2.out.trans (hb3.mono (by omega)))
    have HB4 := hid (HB3.out.trans (HBR.out.mono HB3.out.size))
    have HRP := hid (hr3.below HBR.out (Nat.le_refl _))
    have HL4 := hid (hl3.below HBR.out)
    have HY4 := hid hy3
    have hs4 : (w3.alloc (rob r q d)).heap.size = w3.heap.size + 1 := by simp
    clear hh hr3 he3 hl3 hb3 hy3 HW
    have HF := hid (fault_any r q d (w3.alloc (rob r q d)))
    go_wp2_with (refine wpList_load_row rfl 32 _ rfl w3.heap.size rfl 32 _ (0, 0) _ HR4.out Tryz.underlying32 rfl (Re.infoRep _ _ _ _) ?_)
    refine HF.out.mono ?_; rintro e w5 ⟨rfl, hb5⟩
    have hs5 : w3.heap.size + 1 ≤ w5.heap.size := by have := hb5.out.size; rw [hs4] at this; exact this
    have HR5 := hid ((hb5.out.block w3.heap.size (by omega)).trans HR4.out)
    have HZ5 := hid ((hb5.out.block (w.heap.size + 1) (by omega)).trans HZ4.out)
    have HC5 := hid ((hb5.out.block w.heap.size (by omega)).trans HC4.out)
    have HE5 := hid ((hb5.out.block w1.heap.size (by omega)).trans HE4.out)
    have HB5 := hid (HB4.out.trans (hb5.out.mono HB4.out.size))
    have HRP5 := hid (HRP.out.below hb5.out (Nat.le_refl _))
    have HL5 := hid (HL4.out.below hb5.out)
    clear hb5
    by_cases hf : r.kind = 2
    · obtain rfl : C = (L, r) := by rw [HC.out, if_pos hf]
      have hfb : (r.kind == 2) = true := beq_iff_eq.2 hf
      clear hf
      go_wp2_with (first
        | (refine wpList_load_row rfl 32 _ rfl w3.heap.size rfl 32 _ (0, 0) _ HR5.out Tryz.underlying32 rfl (Re.infoRep _ _ _ _) ?_)
        | (refine wpList_store_row rfl 32 _ _ rfl (w.heap.size + 1) #[.int .i64 r.kind, .int .i64 r.int, txt r.text, .slice q r.list.length d] rfl rfl 32 _ HZ5.out (Re.infoRep _ _ _ _) rfl (one_r _ _ _) ?_))
      refine bodyPost_ret (v := rval r q d) ?_ rfl ?_
      · exact Re.ret_rep1 rfl rfl (setRow_heap w5 _ _ _ _ _ HZ5.out)
      · exact ⟨q, d, rfl, Post.quiet HS.out (Re.below_setRow HB5.out (by omega) _) (HRP5.out.turn (fun j hj _ => ⟨by omega, setRow_other _ _ _ _ (by omega)⟩) (Nat.le_refl _)) (fun _ h => h)⟩
    · have hfb : (r.kind == 2) = false := beq_eq_false_iff_ne.2 hf
      replace HC := hid (show C = withM room now L (k, m, endOf L k) r by rw [HC.out, if_neg hf])
      replace HM := hid (HM.out hf)
      have hyy := HY4.out hf
      have hym : y'.m = m := congrArg (fun e => e.2.1) hyy
      clear hf
      obtain ⟨e0, e1, e2, e3, e4, e5, e6, e7⟩ := ent_facts HE5.out
      have HEM := hid (empty_any y'.m y'.pp y'.pc y'.ip y'.ic w5 (by rw [hym]; exact HM.out.came.pairs) (by rw [hym]; exact HM.out.came.items) (emptyV m) (by rw [hym]; exact HM.out.emp))
      have HYY := hid hyy
      clear hyy hym
      go_wp2_with fail
      refine HEM.out.mono ?_; rintro e w6 ⟨rfl, hb6⟩
      have hs6 : w3.heap.size + 1 ≤ w6.heap.size := Nat.le_trans hs5 hb6.out.size
      have HR6 := hid ((hb6.out.block w3.heap.size (by omega)).trans HR5.out)
      have HZ6 := hid ((hb6.out.block (w.heap.size + 1) (by omega)).trans HZ5.out)
      have HC6 := hid ((hb6.out.block w.heap.size (by omega)).trans HC5.out)
      have HE6 := hid ((hb6.out.block w1.heap.size (by omega)).trans HE5.out)
      have HB6 := hid (HB5.out.trans (hb6.out.mono HB5.out.size))
      have HRP6 := hid (HRP5.out.below hb6.out (Nat.le_refl _))
      have HL6 := hid (HL5.out.below hb6.out)
      clear hb6 e0 e1 e2 e3 e4 e5 e6 e7
      cases hem : emptyV m
      · have HCE := hid (show C = (putLL L room now (k, m, endOf L k), putR L room now (k, m, endOf L k) r) by rw [HC.out, withM_put (x := (k, m, endOf L k)) hem])
        obtain ⟨x0, x1, x2⟩ := call_facts HC6.out
        have HP := hid (put_any (HS.out.below HB6.out) nm (some ⟨g, o, none⟩) n c y' (by
          have hyy := HYY.out
          have h1 : y'.key = k := congrArg (fun e => e.1) hyy
          have h2 : y'.m = m := congrArg (fun e => e.2.1) hyy
          have h3 : y'.ends = endOf L k := congrArg (fun e => e.2.2) hyy
          exact ⟨by rw [h1]; exact HKL.out, by rw [h2]; exact HM.out.came, by rw [h2]; exact HM.out.pairs, by rw [h2]; exact HM.out.items, by rw [h3]; exact HEN.out⟩) (HL6.out.keep (Keep.refl _ _) (fun j hj ho => by have := (HS.out.lt j (HS.out.sub j ho)).2; omega)) r q d (fun j => w1.heap.size + 1 ≤ j ∧ j < w6.heap.size) (fun j hj => ⟨hj.2, fun ho => by have := (HS.out.lt j (HS.out.sub j ho)).2; omega⟩) (HRP6.out.turn (fun j hj hl => ⟨⟨hj, hl⟩, rfl⟩) (Nat.le_refl _)))
        rw [HYY.out, show putLL L room now (k, m, endOf L k) = C.1 by rw [HCE.out], show putR L room now (k, m, endOf L k) r = C.2 by rw [HCE.out]] at HP
        clear HCE HC
        go_wp2_with (first
          | (refine wpList_load_row rfl 32 _ rfl w3.heap.size rfl 32 _ (0, 0) _ HR6.out Tryz.underlying32 rfl (Re.infoRep _ _ _ _) ?_)
          | (refine wpList_load_row rfl 51 _ rfl w1.heap.size rfl 51 _ (0, 0) _ HE6.out Tryz.underlying51 rfl (infoE _ rfl) ?_))
        refine HP.out.mono ?_; rintro e w7 ⟨q', d', rfl, hh⟩
        have hst := hh.out.ex
        obtain ⟨O7, A7, h1, h2, h3⟩ := hst
        have HZ7 := hid ((own_block' HS.out h2 (w.heap.size + 1) (by omega) (by omega)).trans HZ6.out)
        have HH := hid hh.out
        clear hh h1 h2 h3 x0 x1 x2
        go_wp2_with (refine wpList_store_row rfl 32 _ _ rfl (w.heap.size + 1) #[.int .i64 C.2.kind, .int .i64 C.2.int, txt C.2.text, .slice q' C.2.list.length d'] rfl rfl 32 _ HZ7.out (Re.infoRep _ _ _ _) rfl (one_r _ _ _) ?_)
        refine bodyPost_ret (v := rval C.2 q' d') ?_ rfl ?_
        · exact Re.ret_rep1 rfl rfl (setRow_heap w7 _ _ _ _ _ HZ7.out)
        · exact ⟨q', d', rfl, Post.set HH.out HS.out HB6.out (w.heap.size + 1) (by omega) (by omega) (fun j hj => ⟨by omega, by omega⟩) (keep_row _ _ _)⟩
      · obtain rfl : C = (delL k L, r) := by rw [HC.out]; unfold withM; rw [if_pos hem]
        have HD := hid (fun (W : World) (hb : Below w.heap.size w W) => sp_del (HS.out.below hb) k HKL.out)
        have HB6d : Hid (Below w.heap.size w w6.drew) := HB6.out.drew
        have hk6 : w6.drew.cell? ⟨g, o, none⟩ = some (txt k) := cell_turn Hk.out (HB6.out.block g hgl)
        obtain ⟨x0, x1, x2⟩ := call_facts HC6.out
        clear HC HM
        go_wp2_with fail
        go_region_law
          (first
            | (go_simp; go_at_call 124; (with_reducible refine (HK.out _ hk6).mono ?_); rintro e w7 ⟨rfl, hb7⟩; have hs7 : w6.heap.size ≤ w7.heap.size := hb7.out.size; have HB7 := hid (HB6d.out.trans (hb7.out.mono HB6d.out.size)); have HC7 := hid ((hb7.out.block w.heap.size (show w.heap.size < w6.heap.size by omega)).trans HC6.out); have HR7 := hid ((hb7.out.block w3.heap.size (show w3.heap.size < w6.heap.size by omega)).trans HR6.out); have HZ7 := hid ((hb7.out.block (w.heap.size + 1) (show w.heap.size + 1 < w6.heap.size by omega)).trans HZ6.out); have HRP7 := hid (Re.Rp.below hb7.out (Nat.le_refl _) (show Re.Rp (fun j => w1.heap.size + 1 ≤ j) w6.drew 2 (rval r q d) r from HRP6.out.turn (fun j hj _ => ⟨hj, rfl⟩) (Nat.le_refl _))); obtain ⟨y0, y1, y2⟩ := call_facts HC7.out; clear hb7)
            | (go_simp; go_at_call 34; (with_reducible refine (HD.out _ HB7.out).mono ?_); rintro e w8 ⟨rfl, hh⟩))
        all_goals
          obtain ⟨O8, A8, h1, h2⟩ := hh.out
          have HR8 := hid ((own_block' HS.out h2 w3.heap.size (by omega) (by omega)).trans HR7.out)
          have HZ8 := hid ((own_block' HS.out h2 (w.heap.size + 1) (by omega) (by omega)).trans HZ7.out)
          have HH : Hid (Post B (fun j => w1.heap.size + 1 ≤ j ∧ j < w7.heap.size) w7 b O A room now (delL k L) r w8 (rval r q d)) := ⟨O8, A8, h1, h2, HRP7.out.turn (fun j hj hl => by
            have hno : ¬ O j := fun ho => by have := (HS.out.lt j (HS.out.sub j ho)).2; omega
            exact ⟨⟨⟨hj, hl⟩, fun ho => by
              rcases h2.o j ho with h' | h'
              · exact hno h'
              · omega⟩, h2.keep.block j hl hno⟩) (Nat.le_refl _)⟩
          clear hh h1 h2 x0 x1 x2 y0 y1 y2
          go_wp2_with (first
            | (refine wpList_load_row rfl 32 _ rfl w3.heap.size rfl 32 _ (0, 0) _ HR8.out Tryz.underlying32 rfl (Re.infoRep _ _ _ _) ?_)
            | (refine wpList_store_row rfl 32 _ _ rfl (w.heap.size + 1) #[.int .i64 r.kind, .int .i64 r.int, txt r.text, .slice q r.list.length d] rfl rfl 32 _ HZ8.out (Re.infoRep _ _ _ _) rfl (one_r _ _ _) ?_))
          refine bodyPost_ret (v := rval r q d) ?_ rfl ?_
          · exact Re.ret_rep1 rfl rfl (setRow_heap w8 _ _ _ _ _ HZ8.out)
          · exact ⟨q, d, rfl, Post.set HH.out HS.out HB7.out (w.heap.size + 1) (by omega) (by omega) (fun j hj => ⟨by omega, by omega⟩) (keep_row _ _ _)⟩
  · obtain rfl : C = (L, fault fType) := HC.out
    have HWr := hid (wrong_any fType (w1.alloc (eob y)))
    rw [Bool.not_true]
    go_wp2_with fail
    refine HWr.out.mono ?_; rintro e w2 ⟨rfl, hb2⟩
    have HZ3 := hid ((hb2.out.block (w.heap.size + 1) (by omega)).trans HZ2.out)
    have HB3 := hid (HB2.out.trans (hb2.out.mono HB2.out.size))
    clear hb2
    go_wp2_with (refine wpList_store_row rfl 32 _ _ rfl (w.heap.size + 1) #[.int .i64 (fault fType).kind, .int .i64 (fault fType).int, txt (fault fType).text, .slice none (fault fType).list.length 0] rfl rfl 32 _ HZ3.out (Re.infoRep _ _ _ _) rfl (one_r _ _ _) ?_)
    refine bodyPost_ret (v := rval (fault fType) none 0) ?_ rfl ?_
    · exact Re.ret_rep1 rfl rfl (setRow_heap w2 _ _ _ _ _ HZ3.out)
    · exact ⟨none, 0, rfl, Post.quiet HS.out (Re.below_setRow HB3.out (by omega) _) (flat_rp (by decide) (by decide) (by decide)) (fun _ h => h)⟩

end Go.Proofs.YtcbncdigejjcpaaGreatDoor.Ex

namespace Go.Proofs.YtcbncdigejjcpaaGreatDoor.Ex
open Re (Rep)
open Go.RowKit

theorem rp_flat {P : Nat → Prop} {w : World} {r : Rep} (hl : r.list = []) (hF : Re.Fit r) : Re.Rp P w 2 (rval r none 0) r := ⟨none, 0, rfl, hF, by rw [hl]; exact Re.RowOf.nil _ _ _ _⟩
theorem fit_mk {k n : Int} {t : Nm} (hk : In64 k) (hn : In64 n) (ht : t.length ≤ 140737488351232) : Re.Fit (.mk k n t []) := ⟨hk.1, hk.2, hn.1, hn.2, (by show t.length ≤ _; omega), Nat.zero_le _⟩
theorem fit_ton {s : Nm} {t : Bool} (h : s.length ≤ 140737488351232) : (tonR s t).list = [] ∧ Re.Fit (tonR s t) := by
  cases t
  · exact ⟨rfl, fit_mk (by decide) (by decide) (Nat.zero_le _)⟩
  · exact ⟨rfl, fit_mk (by decide) (by decide) h⟩
theorem fit_num {n : Int} (h : In64 n) : (wholeR n).list = [] ∧ Re.Fit (wholeR n) := ⟨rfl, fit_mk (by decide) h (Nat.zero_le _)⟩
set_option maxHeartbeats 4000000 in
set_option maxRecDepth 100000 in
theorem look_get (m : Vl) (pp : Option Addr) (pc' : Nat) (ip : Option Addr) (ic : Nat) (is : Bool) (w : World) (hl : m.text.length ≤ 140737488351232) :
    Tell w.heap.size 69 #[vv m pp pc' ip ic, .bool is] w (tonR m.text is) := by
  have HA := hid (al_two w (vob m pp pc' ip ic) rob0)
  obtain ⟨a0, a1, a2, a3, a4, a5⟩ := val_facts HA.out.2.1
  have HM := hid (ton_any m.text is ((w.alloc (vob m pp pc' ip ic)).alloc rob0))
  obtain ⟨R, hR⟩ : ∃ R, R = tonR m.text is := ⟨_, rfl⟩
  rw [← hR]
  have HF := hid (fit_ton (t := is) hl)
  rw [← hR] at HF HM
  clear hR
  go_enter Tryz.func69, Tryz.ntmps69
  go_wp2_with fail
  refine HM.out.mono ?_; rintro e w1 ⟨rfl, hb1⟩
  have HZ1 := hid ((hb1.out.block (w.heap.size + 1) (by rw [HA.out.2.2.2]; omega)).trans HA.out.2.2.1)
  have HB1 := hid (HA.out.1.trans (hb1.out.mono HA.out.1.size))
  clear hb1
  go_wp2_with (refine wpList_store_row rfl 32 _ _ rfl (w.heap.size + 1) #[.int .i64 R.kind, .int .i64 R.int, txt R.text, .slice none R.list.length 0] rfl rfl 32 _ HZ1.out (Re.infoRep _ _ _ _) rfl (one_r _ _ _) ?_)
  refine bodyPost_ret (v := rval R none 0) ?_ rfl ?_
  · exact Re.ret_rep1 rfl rfl (setRow_heap w1 _ _ _ _ _ HZ1.out)
  · exact ⟨none, 0, rfl, rp_flat HF.out.1 HF.out.2, Re.below_setRow HB1.out (by omega) _⟩
set_option maxHeartbeats 4000000 in
set_option maxRecDepth 100000 in
theorem look_strlen (m : Vl) (pp : Option Addr) (pc' : Nat) (ip : Option Addr) (ic : Nat) (is : Bool) (w : World) (hl : m.text.length ≤ 140737488351232) :
    Tell w.heap.size 71 #[vv m pp pc' ip ic, .bool is] w (wholeR (m.text.length : Int)) := by
  have HA := hid (al_two w (vob m pp pc' ip ic) rob0)
  obtain ⟨a0, a1, a2, a3, a4, a5⟩ := val_facts HA.out.2.1
  have HM := hid (number_any (m.text.length : Int) ((w.alloc (vob m pp pc' ip ic)).alloc rob0))
  have hz : (m.text.length : Int) ≤ 140737488351232 := by omega
  obtain ⟨R, hR⟩ : ∃ R, R = wholeR (m.text.length : Int) := ⟨_, rfl⟩
  rw [← hR]
  have HF := hid (fit_num (n := (m.text.length : Int)) ⟨by omega, by omega⟩)
  rw [← hR] at HF HM
  clear hR
  go_enter Tryz.func71, Tryz.ntmps71
  go_wp2_with fail
  refine HM.out.mono ?_; rintro e w1 ⟨rfl, hb1⟩
  have HZ1 := hid ((hb1.out.block (w.heap.size + 1) (by rw [HA.out.2.2.2]; omega)).trans HA.out.2.2.1)
  have HB1 := hid (HA.out.1.trans (hb1.out.mono HA.out.1.size))
  clear hb1
  go_wp2_with (refine wpList_store_row rfl 32 _ _ rfl (w.heap.size + 1) #[.int .i64 R.kind, .int .i64 R.int, txt R.text, .slice none R.list.length 0] rfl rfl 32 _ HZ1.out (Re.infoRep _ _ _ _) rfl (one_r _ _ _) ?_)
  refine bodyPost_ret (v := rval R none 0) ?_ rfl ?_
  · exact Re.ret_rep1 rfl rfl (setRow_heap w1 _ _ _ _ _ HZ1.out)
  · exact ⟨none, 0, rfl, rp_flat HF.out.1 HF.out.2, Re.below_setRow HB1.out (by omega) _⟩
end Go.Proofs.YtcbncdigejjcpaaGreatDoor.Ex
