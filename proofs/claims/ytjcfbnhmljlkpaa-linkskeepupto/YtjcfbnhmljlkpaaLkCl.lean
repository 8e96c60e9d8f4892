/- Clone. -/
import Derived.Test.YtjcfbnhmljlkpaaLkRng
import Derived.Deep.MidRow
namespace Go.Proofs.Ytjcfbnhmljlkpaa
open Go.RowKit Go.Maps

/-- a clone under way: what is still to come is told by left -/
structure CLo (w W : World) (b' m rit : Nat) (D : DataW Value) (ws ws' : List Wy) (left : Lit → Bool) (cnt : Nat) (F' R' : Nat → Prop) : Prop where
  rg : RG W m rit (size D) D left cnt
  lb : LB W b' F' R' ws'
  fresh : ∀ k, F' k ∨ R' k → w.heap.size ≤ k ∧ k ≠ rit
  que : ∀ f t, IE f t → onV ws' f t = if left (kl f t) = true then [] else onV ws f t
  bel : Below w.heap.size w W
/-- one row of it under way -/
structure CLi (W0 W : World) (b' : Nat) (l : List Pc) (j : Nat) (f t : Int) (ws' ws'' : List Wy) (F0 F' R0 R' : Nat → Prop) : Prop where
  lb : LB W b' F' R' ws''
  kp : Kp F0 F' R0 R' W0 W
  que : ∀ g u, onV ws'' g u = if g = f ∧ u = t then (l.take j).map Pc.x else onV ws' g u
theorem out_len {ws ws' : List Wy} {left : Lit → Bool} (hq : ∀ f t, IE f t → onV ws' f t = if left (kl f t) = true then [] else onV ws f t) (he : ∀ f t, onV ws' f t ≠ [] → IE f t) (f t : Int) : (onV ws' f t).length ≤ (onV ws f t).length := by
  by_cases hn : onV ws' f t = []
  · rw [hn]; exact Nat.zero_le _
  · rw [hq f t (he f t hn)]
    split
    · exact Nat.zero_le _
    · exact Nat.le_refl _
theorem CLi.len {W0 W : World} {b' : Nat} {l : List Pc} {j : Nat} {f t : Int} {ws ws' ws'' : List Wy} {F0 F' R0 R' : Nat → Prop} (h : CLi W0 W b' l j f t ws' ws'' F0 F' R0 R') (hl : l.map Pc.x = onV ws f t) (ho : ∀ g u, (onV ws' g u).length ≤ (onV ws g u).length) : ws''.length ≤ ws.length := by
  refine len_le ws'' ws (fun g u => ?_)
  rw [h.que]
  by_cases e : g = f ∧ u = t
  · obtain ⟨rfl, rfl⟩ := e
    rw [if_pos ⟨rfl, rfl⟩, ← hl]
    simp only [List.length_map, List.length_take]
    omega
  · rw [if_neg e]; exact ho g u
/-- one letter more is sent -/
theorem CLi.step {W0 W : World} {b' : Nat} {l : List Pc} {j : Nat} {f t : Int} {ws ws' ws'' : List Wy} {F0 F' R0 R' : Nat → Prop} (h : CLi W0 W b' l j f t ws' ws'' F0 F' R0 R') (hl : l.map Pc.x = onV ws f t) (ho : ∀ g u, (onV ws' g u).length ≤ (onV ws g u).length) (hw : ws.length ≤ 100000) (hie : IE f t) (hj : j < l.length)
    (hx : LtR All W l[j].x l[j].ap l[j].rp) (hf : FewL l[j].x) :
    Calls Try.prog 14 #[ptr b', .int .i64 f, .int .i64 t, .agg (ltC l[j].x l[j].ap l[j].ac l[j].rp l[j].rc)] W fun e W' => e = .returned (.tuple #[]) ∧ Hid (∃ ws3 F3 R3, CLi W0 W' b' l (j + 1) f t ws' ws3 F0 F3 R0 R3) := by
  refine (ksend_any h.lb f t _ _ _ _ _ hx hf hie (Nat.le_trans (h.len hl ho) hw)).mono ?_
  rintro e W' ⟨rfl, hh⟩
  obtain ⟨F3, R3, h1, h2⟩ := hh.out
  refine ⟨rfl, _, F3, R3, h1, h.kp.trans h2, fun g u => ?_⟩
  rw [onV_send]
  by_cases e : g = f ∧ u = t
  · rw [if_pos e, if_pos e, h.que, if_pos e, List.take_succ_eq_append_getElem hj, List.map_append]
    rfl
  · rw [if_neg e, if_neg e, h.que, if_neg e]
theorem yieldsIf_load_arr {P : Program} {ops : Array Oper} {S : World → Prop} {op : Oper} {a : Act} {CX : Array Value} (ht : CX.toList.toArray = CX) (hw : Region.wanted op (yielded ops a.tmps) = true) (ty : TypeId) (x : Operand) (ho : op.op = .load ty x)
    (b o : Nat) (hx : a.eval x = .pointer (some ⟨b, o, none⟩)) {d : TypeDesc} (hS : ∀ w, S w → w.rangeAt b o CX.toList) (hu : P.underlying ty = some d) (hd : d.isRow = true) (hi : (P.info? ty).map (·.size) = some CX.toList.length) : YieldsIf P ops S op (.agg CX) a := by
  have := yieldsIf_load_mid (P := P) (S := S) hw ty x ho b o hx CX.toList d hS hu hd hi
  rwa [ht] at this
theorem CLi.drew {W0 W : World} {b' : Nat} {l : List Pc} {j : Nat} {f t : Int} {ws' ws'' : List Wy} {F0 F' R0 R' : Nat → Prop} (h : CLi W0 W b' l j f t ws' ws'' F0 F' R0 R') : CLi W0 W.drew b' l j f t ws' ws'' F0 F' R0 R' :=
  ⟨h.lb.keep (fun _ _ => rfl) (Nat.le_refl _), ⟨h.kp.like.drew, h.kp.block, h.kp.foot, h.kp.rows⟩, h.que⟩
def leftP : List Pc → Option Addr → Nat
  | [], _ => 0
  | p :: l, a => if a = some ⟨p.b, 0, none⟩ then l.length + 1 else leftP l a
/-- how many are left, told of where the next one lies -/
def leftV (l : List Pc) (v : Value) : Nat := match v with | .pointer a => leftP l a | _ => 0
theorem leftP_drop : ∀ (l : List Pc) (j : Nat), (l.map Pc.b).Nodup → leftP l (fstA (l.drop j)) = l.length - j
  | [], j, _ => by simp [leftP]
  | p :: l, 0, _ => by simp [leftP, fstA]
  | p :: l, j + 1, hd => by
    obtain ⟨h1, h2⟩ := List.nodup_cons.1 hd
    rw [List.drop_succ_cons]
    have hne : ¬ fstA (l.drop j) = some ⟨p.b, 0, none⟩ := by
      intro e
      cases hl : l.drop j with
      | nil => rw [hl] at e; cases e
      | cons q r =>
        rw [hl] at e
        have e2 : q.b = p.b := by
          simp only [fstA, Option.some.injEq, Addr.mk.injEq] at e
          exact e.1
        exact h1 (by rw [← e2]; exact List.mem_map.2 ⟨q, List.mem_of_mem_drop (by rw [hl]; simp), rfl⟩)
    rw [leftP, if_neg hne, leftP_drop l j h2, List.length_cons]
    omega
theorem fst_drop {l : List Pc} {j : Nat} (hj : j < l.length) : fstA (l.drop j) = some ⟨l[j].b, 0, none⟩ := by
  rw [List.drop_eq_getElem_cons hj]; rfl
theorem Chain.at {w : World} : ∀ {l : List Pc}, Chain w l → ∀ (j : Nat) (hj : j < l.length), w.heap[l[j].b]? = some (.cells (plC l[j].x l[j].ap l[j].ac l[j].rp l[j].rc (fstA (l.drop (j + 1)))) 65 (0, 0))
  | p :: l, h, 0, _ => h.1
  | p :: l, h, j + 1, hj => Chain.at h.2 j (by simpa using hj)
set_option maxHeartbeats 8000000 in
set_option maxRecDepth 100000 in
theorem kclone_any {w : World} {b : Nat} {F R : Nat → Prop} {ws : List Wy} (h : LB w b F R ws) (hl : ws.length ≤ 100000) :
    Calls Try.prog 13 #[ptr b] w fun e w' => ∃ b' F' R', e = .returned (ptr b') ∧ Hid (LB w' b' F' R' ws ∧ (∀ k, F' k → w.heap.size ≤ k) ∧ (∀ k, R' k → R k ∨ w.heap.size ≤ k) ∧ Below w.heap.size w w') := by
  have hends := fun f t => h.ends f t
  obtain ⟨m, D, pl, hs⟩ := h
  have HS := hid hs
  have HL := hid hl
  have HEn := hid hends
  have HV : Hid (∀ f t, IE f t → D.atKey (kl f t) (.held zrow) = .held (.agg #[.pointer (fstA (pl f t)), .pointer (lstA (pl f t)), .int .i64 ((pl f t).length : Int)])) := hs.val
  clear hs hl hends
  go_enter Try.func13, Try.ntmps13
  go_wp2_with fail
  refine (knew_any w).mono ?_; rintro e w1 ⟨b', F1, R1, rfl, hh⟩
  obtain ⟨hlb1, hf1, hb1⟩ := hh.out
  have c0 : w1.cell? ⟨b, 0, none⟩ = some (.map (some m)) := cell_turn (cell_of_row w b 0 _ _ _ HS.out.blk) (hb1.block b HS.out.bl)
  have hom1 : OM w1 m (size D) D := by
    obtain ⟨es, clock, hb, rest⟩ := HS.out.om
    exact ⟨es, clock, (hb1.block m HS.out.ml).trans hb, rest⟩
  have HO1 := hid hom1
  have HLB1 := hid hlb1
  have HF1 := hid hf1
  have HB1 := hid hb1
  clear hh hlb1 hf1 hb1 hom1
  go_wp2_with (first
    | (at_range; refine wpList_range_own _ rfl _ 51 rfl 41 63 keyed Try.underlying51 Rv m (size D) D rfl HO1.out ?_; intro w2 hrg2 hg2 hs2)
    | fail)
  go_frame
  have HSt : Hid (∃ (left : Lit → Bool) (cnt : Nat) (ws' : List Wy) (F' R' : Nat → Prop), CLo w w2 b' m w1.heap.size D ws ws' left cnt F' R') := by
    refine ⟨_, _, [], F1, R1, hrg2, HLB1.out.keep (fun k hk => hg2.block k (HLB1.out.lt k hk) (by simp)) hg2.size, fun k hk => ⟨HF1.out k hk, fun e => ?_⟩, fun f t hi => ?_, HB1.out.grown hg2 HB1.out.size (fun k e => by cases e)⟩
    · have := HLB1.out.lt k hk
      omega
    · rw [HS.out.has f t hi]
      cases hp : pl f t with
      | nil => rw [(HS.out.empty_iff f t).1 hp]; rfl
      | cons x l => rfl
  clear hrg2 hg2 hs2 c0
  go_loopw [13] (fun _ W => ∃ (left : Lit → Bool) (cnt : Nat) (ws' : List Wy) (F' R' : Nat → Prop), Hid (CLo w W b' m w1.heap.size D ws ws' left cnt F' R')) (fun _ W => W.rangeLeft m w1.heap.size)
  case atStart => exact HSt.out
  case round =>
    obtain ⟨left, cnt, ws', F', R', HC⟩ := hrel
    go_wp2_with (first
      | (at_next; refine wpList_next_rows _ rfl _ rfl m w1.heap.size (size D) D left cnt _ _ _ HV.out rfl HC.out.rg ?_ ?_)
      | fail)
    · intro _ hl0
      go_wp2_with fail
      go_ret
      refine ⟨b', F', R', rfl, HC.out.lb.congr (fun f t => ?_), fun k hk => (HC.out.fresh k (.inl hk)).1, fun k hk => .inr (HC.out.fresh k (.inr hk)).1, HC.out.bel⟩
      by_cases hi : IE f t
      · rw [HC.out.que f t hi, hl0]
        rfl
      · have e1 : onV ws f t = [] := Classical.byContradiction (fun e => hi (HEn.out f t e))
        have e2 : onV ws' f t = [] := Classical.byContradiction (fun e => hi (HC.out.lb.ends f t e))
        rw [e1, e2]
    · intro f t w3 cnt3 hi hlk hrg3 hlt hg3 hs3 hen
      have HI := hid hi
      have HLk := hid hlk
      have HRg3 := hid hrg3
      have HLt := hid hlt
      have HG3 := hid hg3
      obtain ⟨l, hpl⟩ : ∃ l, pl f t = l := ⟨_, rfl⟩
      have HPl := hid hpl
      rw [hpl] at hen ⊢
      obtain ⟨A, hA⟩ : ∃ A, fstA l = A := ⟨_, rfl⟩
      obtain ⟨Z, hZ⟩ : ∃ A, lstA l = A := ⟨_, rfl⟩
      obtain ⟨N, hN⟩ : ∃ A, l.length = A := ⟨_, rfl⟩
      rw [hA, hZ, hN] at hen ⊢
      have HA := hid hA
      clear hi hlk hrg3 hlt hg3 hs3 hpl hA hZ hN
      go_upto_region 5 with fail
      generalize hgw : (w3.alloc _).alloc _ = w4
      have hb4 : Below w3.heap.size w3 w4 := by rw [← hgw]; exact (below_alloc w3 _).trans ((below_alloc _ _).mono (by simp))
      have hk4 : w4.heap[w3.heap.size]? = some (.cells (prC (f, t)) 41 (0, 0)) := by rw [← hgw]; exact ((below_alloc _ _).block _ (by simp)).trans (heap_alloc_new w3 _)
      have hr4 : w4.heap[w3.heap.size + 1]? = some (.cells #[.pointer A, .pointer Z, .int .i64 (N : Int)] 63 (0, 0)) := by
        rw [← hgw]
        have := heap_alloc_new (w3.alloc (.cells (prC (f, t)) 41)) (.cells #[.pointer A, .pointer Z, .int .i64 (N : Int)] 63)
        rwa [World.size_alloc] at this
      have r0 : w4.cell? ⟨w3.heap.size + 1, 0, none⟩ = some (.pointer A) := cell_of_row w4 _ 0 _ _ _ hr4
      have hlb3 : LB w3 b' F' R' ws' := HC.out.lb.keep (fun k hk => HG3.out.block k (HC.out.lb.lt k hk) (fun e => (HC.out.fresh k hk).2 (by injection e))) HG3.out.size
      have hlb4 : LB w4 b' F' R' ws' := hlb3.below hb4
      have hw4 : Below w.heap.size w w4 := (HC.out.bel.grown HG3.out HC.out.bel.size (fun k e => by injection e with e; rw [← e]; exact HB1.out.size)).trans (hb4.mono (Nat.le_trans HC.out.bel.size HG3.out.size))
      have hnk : ¬ F' w3.heap.size := fun hc => by have := hlb3.lt _ (.inl hc); omega
      have hlq : l.map Pc.x = onV ws f t := by rw [← HPl.out, HS.out.que]
      have hout := out_len HC.out.que (fun f t => HC.out.lb.ends f t)
      have hch4 : Chain w4 l := by
        rw [← HPl.out]
        exact (HS.out.chain f t).turn (fun q hq => hw4.block _ ((HS.out.chain f t).lt q hq))
      have hlies : ∀ q ∈ l, LtR R w q.x q.ap q.rp ∧ FewL q.x ∧ q.b < w.heap.size := fun q hq => by
        rw [← HPl.out] at hq
        exact ⟨(HS.out.lies f t q hq).1, (HS.out.lies f t q hq).2, (HS.out.chain f t).lt q hq⟩
      have hst : CLi w4 w4 b' l 0 f t ws' ws' F' F' R' R' := ⟨hlb4, Kp.refl _ _ _, fun g u => by
        by_cases e : g = f ∧ u = t
        · obtain ⟨rfl, rfl⟩ := e
          rw [if_pos ⟨rfl, rfl⟩, HC.out.que _ _ HI.out, if_pos HLk.out]
          rfl
        · rw [if_neg e]⟩
      have HB4 := hid hb4
      have HK4 := hid hk4
      have HLB3 := hid hlb3
      have HW4 := hid hw4
      have Hnk := hid hnk
      have HLq := hid hlq
      have HOut := hid hout
      have HCh4 := hid hch4
      have HLies := hid hlies
      have HSt4 := hid hst
      clear hgw hb4 hk4 hr4 hlb3 hlb4 hw4 hnk hlq hout hch4 hlies hst hen
      go_wp2_with fail
      have facts : ∀ {W : World} {j : Nat} {ws'' : List Wy} {F'' R'' : Nat → Prop}, CLi w4 W b' l j f t ws' ws'' F' F'' R' R'' → W.heap[w3.heap.size]? = some (.cells (prC (f, t)) 41 (0, 0)) ∧ ∀ k, k < w.heap.size → W.heap[k]? = w.heap[k]? := fun h =>
        ⟨(h.kp.block _ (Array.getElem?_eq_some_iff.1 HK4.out).1 Hnk.out).trans HK4.out, fun k hk => (h.kp.block k (Nat.lt_of_lt_of_le hk HW4.out.size) (fun hc => by have := (HC.out.fresh k (.inl hc)).1; omega)).trans (HW4.out.block k hk)⟩
      have HFacts := hid (fun (W : World) (j : Nat) (ws'' : List Wy) (F'' R'' : Nat → Prop) => facts (W := W) (j := j) (ws'' := ws'') (F'' := F'') (R'' := R''))
      clear facts
      go_loopw [6] (fun v6 W => ∃ (j : Nat) (ws'' : List Wy) (F'' R'' : Nat → Prop), v6 = .pointer (fstA (l.drop j)) ∧ j ≤ l.length ∧ Hid (CLi w4 W b' l j f t ws' ws'' F' F'' R' R'')) (fun v6 _ => leftV l v6)
      case atStart => exact ⟨0, ws', F', R', by rw [List.drop_zero, HA.out], Nat.zero_le _, HSt4.out⟩
      case round =>
        obtain ⟨j, ws'', F'', R'', rfl, hj, HCi⟩ := hrel
        have hnd : (l.map Pc.b).Nodup := by rw [← HPl.out]; exact HS.out.nodup f t
        have HNd := hid hnd
        obtain ⟨hkk, hblk⟩ := HFacts.out _ _ _ _ _ HCi.out
        have k0 : wr.cell? ⟨w3.heap.size, 0, none⟩ = some (.int .i64 f) := cell_of_row wr _ 0 _ _ _ hkk
        have k1 : wr.cell? ⟨w3.heap.size, 1, none⟩ = some (.int .i64 t) := cell_of_row wr _ 1 _ _ _ hkk
        clear hnd hkk
        by_cases hlt : j < l.length
        · have hz1 : ∀ q ∈ l, q.b < w.heap.size := fun q hq => (HLies.out q hq).2.2
          have hpm : l[j] ∈ l := List.getElem_mem hlt
          have hzl : l[j].b < w.heap.size := hz1 _ hpm
          have hpr : wr.heap[l[j].b]? = some (.cells (plC l[j].x l[j].ap l[j].ac l[j].rp l[j].rc (fstA (l.drop (j + 1)))) 65 (0, 0)) := (hblk _ hzl).trans (((HW4.out.block _ hzl).symm).trans (HCh4.out.at j hlt))
          have hprW : ∀ W : World, (∀ k, k < w.heap.size → W.heap[k]? = w.heap[k]?) → W.heap[l[j].b]? = some (.cells (plC l[j].x l[j].ap l[j].ac l[j].rp l[j].rc (fstA (l.drop (j + 1)))) 65 (0, 0)) := fun W hW => (hW _ hzl).trans (((hblk _ hzl).symm).trans hpr)
          have hxr : LtR All wr.drew l[j].x l[j].ap l[j].rp := (HLies.out _ hpm).1.turn (fun k hr hkl => ⟨trivial, hblk k hkl⟩)
          have hst := HCi.out.drew.step HLq.out HOut.out HL.out HI.out hlt hxr (HLies.out _ hpm).2.1
          have HFd := hid (fst_drop hlt)
          obtain ⟨z, hz⟩ : ∃ z, l[j].b = z := ⟨_, rfl⟩
          obtain ⟨NX, hNX⟩ : ∃ a, fstA (l.drop (j + 1)) = a := ⟨_, rfl⟩
          obtain ⟨CA, hCA⟩ : ∃ C, ltC l[j].x l[j].ap l[j].ac l[j].rp l[j].rc = C := ⟨_, rfl⟩
          have hCs : CA.size = 13 := by rw [← hCA]; rfl
          have iL : (Try.prog.info? 33).map (·.size) = some CA.toList.length := by rw [Array.length_toList, hCs]; kernel_rfl
          have hrg : wr.rangeAt z 0 CA.toList := by rw [← hCA, ← hz]; exact pl_range hpr
          have z13 : wr.cell? ⟨z, 13, none⟩ = some (.pointer NX) := by rw [← hz, ← hNX]; exact cell_of_row wr _ 13 _ _ _ hpr
          have hd1 : fstA (l.drop j) = some ⟨z, 0, none⟩ := by rw [← hz]; exact HFd.out
          rw [hCA] at hst
          have HSt2 := hid hst
          have HNX := hid hNX
          have hzw : z < w.heap.size := by rw [← hz]; exact hzl
          have Hzw := hid hzw
          have HZ : Hid (∀ W : World, (∀ k, k < w.heap.size → W.heap[k]? = w.heap[k]?) → W.rangeAt z 0 CA.toList ∧ W.cell? ⟨z, 13, none⟩ = some (.pointer NX)) := fun W hW => by
            have h1 := hprW W hW
            rw [← hCA, ← hz, ← hNX]
            exact ⟨pl_range h1, cell_of_row W _ 13 _ _ _ h1⟩
          rw [hd1]
          have Hd1 := hid hd1
          clear hz1 hpm hzl hblk hpr hprW hxr hst hz hNX hCA hd1 hzw
          go_upto_region 8 with fail
          refine wp_region_noPanic ?_
          refine wp_region_held_drew (S := fun W => (W.cell? ⟨w3.heap.size, 0, none⟩ = some (.int .i64 f) ∧ W.cell? ⟨w3.heap.size, 1, none⟩ = some (.int .i64 t)) ∧ W.rangeAt z 0 CA.toList) (by kernel_rfl) ⟨⟨k0, k1⟩, hrg⟩ (fun hHeld => ?_)
          refine wpAnyH_take (i := 0) (oi := { dst := some 26, op := Op.move (Operand.tmp 3), type := 23, pos := "links.go:65", after := #[], guard := none }) (v := ptr b') rfl (by kernel_rfl) (by kernel_rfl) (by kernel_rfl) (fun _ _ _ h => h) (Or.inl ⟨by rfl, fun wS hSw => ?_⟩) (by assumption) ?_
          · clear hHeld
            clear hSw
            go_simp
          try simp only [Act.put, List.setIfInBounds_toArray, List.set_cons_zero, List.set_cons_succ]
          refine wpAnyH_take (i := 1) (oi := { dst := some 27, op := Op.indexAddr 41 (Operand.tmp 4) (Operand.const (Value.int IntKind.i64 0)), type := 0, pos := "links.go:65", after := #[], guard := none }) (v := .pointer (some ⟨w3.heap.size, 0, none⟩)) rfl (by kernel_rfl) (by kernel_rfl) (by kernel_rfl) (fun _ _ _ h => h) (Or.inl ⟨by rfl, fun wS hSw => ?_⟩) (by assumption) ?_
          · clear hHeld
            clear hSw
            go_simp
          try simp only [Act.put, List.setIfInBounds_toArray, List.set_cons_zero, List.set_cons_succ]
          refine wpAnyH_take (i := 2) (oi := { dst := some 28, op := Op.load 3 (Operand.tmp 27), type := 3, pos := "links.go:65", after := #[{ on := 1, ground := Ground.data }], guard := none }) (v := .int .i64 f) rfl (by kernel_rfl) (by kernel_rfl) (by kernel_rfl) (fun _ _ _ h => h) (Or.inl ⟨by rfl, fun wS hSw => ?_⟩) (by assumption) ?_
          · clear hHeld
            obtain ⟨⟨y0, y1⟩, yr⟩ := hSw
            go_simp
          try simp only [Act.put, List.setIfInBounds_toArray, List.set_cons_zero, List.set_cons_succ]
          refine wpAnyH_take (i := 3) (oi := { dst := some 29, op := Op.indexAddr 41 (Operand.tmp 4) (Operand.const (Value.int IntKind.i64 1)), type := 0, pos := "links.go:65", after := #[], guard := none }) (v := .pointer (some ⟨w3.heap.size, 1, none⟩)) rfl (by kernel_rfl) (by kernel_rfl) (by kernel_rfl) (fun _ _ _ h => h) (Or.inl ⟨by rfl, fun wS hSw => ?_⟩) (by assumption) ?_
          · clear hHeld
            clear hSw
            go_simp
          try simp only [Act.put, List.setIfInBounds_toArray, List.set_cons_zero, List.set_cons_succ]
          refine wpAnyH_take (i := 4) (oi := { dst := some 30, op := Op.load 3 (Operand.tmp 29), type := 3, pos := "links.go:65", after := #[{ on := 3, ground := Ground.data }], guard := none }) (v := .int .i64 t) rfl (by kernel_rfl) (by kernel_rfl) (by kernel_rfl) (fun _ _ _ h => h) (Or.inl ⟨by rfl, fun wS hSw => ?_⟩) (by assumption) ?_
          · clear hHeld
            obtain ⟨⟨y0, y1⟩, yr⟩ := hSw
            go_simp
          try simp only [Act.put, List.setIfInBounds_toArray, List.set_cons_zero, List.set_cons_succ]
          refine wpAnyH_take (i := 5) (oi := { dst := some 31, op := Op.move (Operand.tmp 6), type := 61, pos := "links.go:65", after := #[], guard := none }) (v := .pointer (some ⟨z, 0, none⟩)) rfl (by kernel_rfl) (by kernel_rfl) (by kernel_rfl) (fun _ _ _ h => h) (Or.inl ⟨by rfl, fun wS hSw => ?_⟩) (by assumption) ?_
          · clear hHeld
            clear hSw
            go_simp
          try simp only [Act.put, List.setIfInBounds_toArray, List.set_cons_zero, List.set_cons_succ]
          refine wpAnyH_take (i := 6) (oi := { dst := some 32, op := Op.nilCheck (Operand.tmp 31), type := 0, pos := "links.go:65", after := #[{ on := 5, ground := Ground.data }], guard := none }) (v := .pointer (some ⟨z, 0, none⟩)) rfl (by kernel_rfl) (by kernel_rfl) (by kernel_rfl) (fun _ _ _ h => h) (Or.inl ⟨by rfl, fun wS hSw => ?_⟩) (by assumption) ?_
          · clear hHeld
            clear hSw
            go_simp
          try simp only [Act.put, List.setIfInBounds_toArray, List.set_cons_zero, List.set_cons_succ]
          refine wpAnyH_take (i := 7) (oi := { dst := some 33, op := Op.fieldAddr 65 (Operand.tmp 32) 0, type := 0, pos := "links.go:65", after := #[{ on := 6, ground := Ground.data }], guard := none }) (v := .pointer (some ⟨z, 0, none⟩)) rfl (by kernel_rfl) (by kernel_rfl) (by kernel_rfl) (fun _ _ _ h => h) (Or.inl ⟨by rfl, fun wS hSw => ?_⟩) (by assumption) ?_
          · clear hHeld
            clear hSw
            go_simp
          try simp only [Act.put, List.setIfInBounds_toArray, List.set_cons_zero, List.set_cons_succ]
          refine wpAnyH_take (i := 8) (oi := { dst := some 34, op := Op.load 33 (Operand.tmp 33), type := 33, pos := "links.go:65", after := #[{ on := 7, ground := Ground.data }], guard := none }) (v := .agg CA) rfl (by kernel_rfl) (by kernel_rfl) (by kernel_rfl) (fun _ _ _ h => h) (yieldsIf_load_arr Array.toArray_toList (by rfl) _ _ rfl _ _ rfl (fun _ h => h.2) Try.underlying33 rfl iL) (by assumption) ?_
          try simp only [Act.put, List.setIfInBounds_toArray, List.set_cons_zero, List.set_cons_succ]
          refine wpAnyH_ready (rs := [9]) (by kernel_rfl) (by simp) ?_
          refine AllReadyH.cons (o := { dst := some 35, op := Op.call { callee := Callee.value (Operand.func 14), args := #[Operand.tmp 26, Operand.tmp 28, Operand.tmp 30, Operand.tmp 34], argTypes := #[23, 3, 3, 33] }, type := 0, pos := "links.go:65", after := #[{ on := 0, ground := Ground.data }, { on := 2, ground := Ground.data }, { on := 4, ground := Ground.data }, { on := 8, ground := Ground.data }], guard := none }) rfl (fun K hK => ?_) AllReadyH.nil
          clear hHeld
          go_simp
          refine HSt2.out.mono ?_; rintro e w5 ⟨rfl, hh⟩
          have HH := hid hh.out
          obtain ⟨ws3, F3, R3, hci⟩ := hh.out
          obtain ⟨a1, a2⟩ := HFacts.out _ _ _ _ _ hci
          obtain ⟨a3, a4⟩ := HZ.out w5 a2
          have s0 : w5.cell? ⟨w3.heap.size, 0, none⟩ = some (.int .i64 f) := cell_of_row w5 _ 0 _ _ _ a1
          have s1 : w5.cell? ⟨w3.heap.size, 1, none⟩ = some (.int .i64 t) := cell_of_row w5 _ 1 _ _ _ a1
          clear hh hci a1 a2 k0 k1 z13 hrg
          try go_wp2_with fail
          refine hK _ _ ⟨⟨s0, s1⟩, a3⟩ (fun hHeld => ?_)
          clear hK K hHeld a3
          try simp only [Act.put, List.setIfInBounds_toArray, List.set_cons_zero, List.set_cons_succ]
          refine wpAnyH_done (by kernel_rfl) ?_ _
          refine NoPanic.normal ?_
          go_wp2_with fail
          go_roundw
          case rel =>
            obtain ⟨ws3, F3, R3, hci⟩ := HH.out
            exact ⟨j + 1, ws3, F3, R3, by rw [HNX.out], hlt, hci⟩
          case measure =>
            show leftP l NX < leftP l (some ⟨z, 0, none⟩)
            rw [← HNX.out, ← Hd1.out, leftP_drop _ _ HNd.out, leftP_drop _ _ HNd.out]
            omega
        · obtain rfl : j = l.length := by omega
          have hdn : fstA (l.drop l.length) = none := by rw [List.drop_length]; rfl
          rw [hdn]
          have hrit : w1.heap.size < w4.heap.size := Nat.lt_of_lt_of_le HRg3.out.lt.2 HB4.out.size
          have hbk : ∀ k, k < w3.heap.size → ¬ F' k → wr.heap[k]? = w3.heap[k]? := fun k hk hf => (HCi.out.kp.block k (Nat.lt_of_lt_of_le hk HB4.out.size) hf).trans (HB4.out.block k hk)
          have hrg5 : RG wr m w1.heap.size (size D) D (fun z => left z && !z.sameKey (kl f t)) cnt3 := HRg3.out.keep (hbk m HRg3.out.lt.1 (fun hc => by have := (HC.out.fresh m (.inl hc)).1; have := HS.out.ml; omega)) (hbk _ HRg3.out.lt.2 (fun hc => (HC.out.fresh _ (.inl hc)).2 rfl))
          have HRg5 := hid hrg5
          have hfin : CLo w wr b' m w1.heap.size D ws ws'' (fun z => left z && !z.sameKey (kl f t)) cnt3 F'' R'' := by
            refine ⟨hrg5, HCi.out.lb, fun k hk => ?_, fun g u hgu => ?_, HW4.out.trans (HCi.out.kp.below (fun k hk => (HC.out.fresh k (.inl hk)).1) HW4.out.size)⟩
            · have h4 := HW4.out.size
              rcases hk with hk | hk
              · rcases HCi.out.kp.foot k hk with h1 | h1
                · exact HC.out.fresh k (.inl h1)
                · exact ⟨by omega, by omega⟩
              · rcases HCi.out.kp.rows k hk with h1 | h1
                · exact HC.out.fresh k (.inr h1)
                · exact ⟨by omega, by omega⟩
            · rw [HCi.out.que]
              by_cases e : g = f ∧ u = t
              · obtain ⟨rfl, rfl⟩ := e
                have hs : (kl g u).sameKey (kl g u) = true := WideAt.sameKey_self (kl_key _ _)
                rw [if_pos ⟨rfl, rfl⟩, List.take_length, HLq.out, if_neg (by simp [hs])]
              · have hs : (kl g u).sameKey (kl f t) = false := by
                  cases h : (kl g u).sameKey (kl f t) with
                  | false => rfl
                  | true => exact absurd (kl_inj hgu HI.out (WideAt.sameKey_eq h)) e
                rw [if_neg e, HC.out.que g u hgu]
                simp [hs]
          have HFi := hid hfin
          clear hdn hrit hbk hrg5 hfin k0 k1 hblk
          go_wp2_with fail
          go_roundw
          case rel => exact ⟨_, _, _, _, _, HFi.out⟩
          case measure => rw [World.ranges.left_eq HRg5.out, World.ranges.left_eq HC.out.rg]; exact HLt.out

end Go.Proofs.Ytjcfbnhmljlkpaa
