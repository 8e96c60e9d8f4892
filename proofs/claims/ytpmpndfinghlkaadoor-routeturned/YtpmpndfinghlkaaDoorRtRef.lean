/- The document's Decide. -/
import Derived.Test.YtpmpndfinghlkaaDoorRtMem
namespace Go.Proofs.YtpmpndfinghlkaaDoor
open Go.RowKit

set_option maxHeartbeats 2000000 in
theorem hat_any (a : Option Addr) (L : List Bool) (n c i : Nat) (w : World) (hn : L.length = n) (hL : BoolsR w a L) (hi : i ≤ 9223372036854775807) : Calls Tryd.prog 18 #[.slice a n c, .int .i64 (i : Int)] w fun e w' => e = .returned (.bool (atB L i)) ∧ w' = w := by
  by_cases h : i < n
  · obtain ⟨b, o, rfl, -, hr⟩ := hL (fun e => by rw [e] at hn; simp at hn; omega)
    have c0 := hr i (by omega)
    have hz : (i : Int) < (n : Int) := by omega
    have hx : atB L i = L[i]'(by omega) := by unfold atB; rw [List.getD_eq_getElem?_getD, List.getElem?_eq_getElem (by omega)]; rfl
    rw [hx]
    generalize L[i]'(by omega) = x at *
    clear hr hL hn hx
    go_enter Tryd.func18, Tryd.ntmps18
    go_wp2_with fail
    go_ret
    exact ⟨rfl, rfl⟩
  · have hz : ¬ (i : Int) < (n : Int) := by omega
    have hx : atB L i = false := by unfold atB; rw [List.getD_eq_getElem?_getD, List.getElem?_eq_none (by omega)]; rfl
    rw [hx]
    clear hL hn hx
    go_enter Tryd.func18, Tryd.ntmps18
    go_wp2_with fail
    go_ret
    exact ⟨rfl, rfl⟩
theorem ret_dec {fn : Func} {p : Tmp} (h : fn.results = #[.cell p 28]) {tmps : Array Value} {w : World} {b : Nat} (d : DecV) (hp : tmps.getD p undef = .pointer (some ⟨b, 0, none⟩)) (hB : w.heap[b]? = some (.cells (decCells d) 28 (0, 0))) : (results fn tmps).run Tryd.prog w = .ok (.agg (decCells d)) w :=
  results_cell_row h tmps w b 28 (decCells d) (0, 0) _ hp hB Tryd.underlying28 rfl (by show _ = some 4; kernel_rfl)
theorem infoDec (d : DecV) : (Tryd.prog.info? 28).map (·.size) = some (decCells d).size := by show _ = some 4; kernel_rfl
def placesD : Array (Nat × Nat) := #[(0, 1), (1, 1), (2, 1), (3, 1)]
theorem builtD_any (parts : List (Nat × Value)) : Tryd.prog.built 28 parts = Instr.fill (fun i => placesD[i]?) #[.int .i64 0, .int .i64 0, .int .i64 0, .int .i64 0] parts := by kernel_rfl
theorem built_d4 (k s m t : Int) : Tryd.prog.built 28 [(0, .int .i64 k), (1, .int .i64 s), (2, .int .i64 m), (3, .int .i64 t)] = some #[.int .i64 k, .int .i64 s, .int .i64 m, .int .i64 t] := by
  rw [builtD_any]
  rfl
theorem wpList_buildD4 {ops : Array Oper} {rest : List Oper} {o : Oper} {a : Act} {w : World} {Q : Exit → Act → World → Prop} (hg : o.guard = none) (k : Int) (x y z : Operand) (ho : o.op = .build 28 #[(0, .const (.int .i64 k)), (1, x), (2, y), (3, z)]) (s m t : Int) (hx : a.eval x = .int .i64 s) (hy : a.eval y = .int .i64 m) (hz : a.eval z = .int .i64 t)
    (h : wpList Tryd.prog ops Q rest (a.put o.dst (.agg #[.int .i64 k, .int .i64 s, .int .i64 m, .int .i64 t])) w) : wpList Tryd.prog ops Q (o :: rest) a w := by
  have e : (#[(0, Operand.const (.int .i64 k)), (1, x), (2, y), (3, z)].map fun (i, x) => (i, a.eval x)).toList = [(0, .int .i64 k), (1, .int .i64 s), (2, .int .i64 m), (3, .int .i64 t)] := by
    simp only [List.map_toArray, List.map_cons, List.map_nil, hx, hy, hz]
    rfl
  refine wpList_plain hg fun _ hK => wp_build 28 _ ho (by rw [e, built_d4]; rfl) (by rw [e, built_d4]; exact hK _ _ h)
def DecP (d : DecV) (w : World) (e : Ending) (w' : World) : Prop := e = .returned (.agg (decCells d)) ∧ Below w.heap.size w w'
/-- Decide, on its way -/
structure Dw (w wr : World) (CC : Array Value) : Prop where
  box : wr.heap[w.heap.size]? = some (.cells CC 31 (0, 0))
  res : wr.heap[w.heap.size + 1]? = some (.cells #[.int .i64 0, .int .i64 0, .int .i64 0, .int .i64 0] 28 (0, 0))
  bel : Below w.heap.size w wr
set_option maxHeartbeats 8000000 in
set_option maxRecDepth 100000 in
theorem rdecide_any (c : CaseV) (a : Option Addr) (ca : Nat) (h : Option Addr) (ch : Nat) (d : Option Addr) (cd : Nat) (w : World) (hC : CaseR w c a h d) (hm : c.slots.length ≤ 9223372036854775807) :
    Calls Tryd.prog 11 #[.agg (caseCells c a ca h ch d cd)] w (DecP (decideV c) w) := by
  have b1 := below_alloc w (.cells (caseCells c a ca h ch d cd) 31)
  have HD0 : Hid (Dw w ((w.alloc (.cells (caseCells c a ca h ch d cd) 31)).alloc (.cells #[.int .i64 0, .int .i64 0, .int .i64 0, .int .i64 0] 28)) (caseCells c a ca h ch d cd)) := ⟨heap_alloc2_old w _ _, heap_alloc2_new w _ _, b1.alloc (by simp) _⟩
  have HC0 := hid (hC.below HD0.out.bel (Nat.le_refl _))
  have HCc : Hid (∀ W : World, W.heap[w.heap.size]? = some (.cells (caseCells c a ca h ch d cd) 31 (0, 0)) → W.cell? ⟨w.heap.size, 0, none⟩ = some (.int .i64 c.self) ∧ W.cell? ⟨w.heap.size, 1, none⟩ = some (.int .i64 c.owner) ∧ W.cell? ⟨w.heap.size, 2, none⟩ = some (.int .i64 c.mig) ∧ W.cell? ⟨w.heap.size, 3, none⟩ = some (.int .i64 c.imp) ∧ W.cell? ⟨w.heap.size, 4, none⟩ = some (.int .i64 c.token) ∧ W.cell? ⟨w.heap.size, 5, none⟩ = some (.int .i64 c.asking) ∧ W.cell? ⟨w.heap.size, 6, none⟩ = some (.slice a c.slots.length ca) ∧ W.cell? ⟨w.heap.size, 7, none⟩ = some (.slice h c.here.length ch) ∧ W.cell? ⟨w.heap.size, 8, none⟩ = some (.slice d c.held.length cd)) := fun W hW =>
    ⟨cell_of_row W _ 0 _ _ _ hW, cell_of_row W _ 1 _ _ _ hW, cell_of_row W _ 2 _ _ _ hW, cell_of_row W _ 3 _ _ _ hW, cell_of_row W _ 4 _ _ _ hW, cell_of_row W _ 5 _ _ _ hW, cell_of_row W _ 6 _ _ _ hW, cell_of_row W _ 7 _ _ _ hW, cell_of_row W _ 8 _ _ _ hW⟩
  have HFin : Hid (∀ (e : DecV) (W : World), Dw w W (caseCells c a ca h ch d cd) → decideV c = e → DecP (decideV c) w (.returned (.agg (decCells e))) (W.setRow (w.heap.size + 1) (decCells e))) := fun e W hW he => by
    rw [he]
    exact ⟨rfl, below_setRow hW.bel (by omega) _⟩
  have HDv : Hid (decideV c = if c.slots.length = 0 then ⟨1, 0, 0, 0⟩ else if sameS c.slots (c.slots.getD 0 0) c.slots.length = false then ⟨5, c.slots.getD 0 0, 0, 0⟩ else restV c (c.slots.getD 0 0) (someB c.here c.slots.length) (allB c.here c.slots.length) (someB c.held c.slots.length)) := rfl
  generalize decideV c = DV at *
  obtain ⟨CC, hCC⟩ : ∃ C, caseCells c a ca h ch d cd = C := ⟨_, rfl⟩
  rw [hCC] at HD0 HC0 HCc HFin ⊢
  obtain ⟨n, hn⟩ : ∃ n, c.slots.length = n := ⟨_, rfl⟩
  have HN := hid hn
  rw [hn] at HCc HDv hm
  obtain ⟨s0, hs0⟩ : ∃ s, c.slots.getD 0 0 = s := ⟨_, rfl⟩
  have HS0 := hid hs0
  rw [hs0] at HDv
  clear hCC hn hs0 b1 hC
  go_enter Tryd.func11, Tryd.ntmps11
  go_upto_region 1 with fail
  generalize (w.alloc (.cells CC 31)).alloc (.cells #[.int .i64 0, .int .i64 0, .int .i64 0, .int .i64 0] 28) = w1 at *
  obtain ⟨k0, k1, k2, k3, k4, k5, k6, k7, k8⟩ := HCc.out _ HD0.out.box
  by_cases h0 : n = 0
  · subst h0
    have HX := hid HD0.out
    have HE : Hid (DecP DV w (.returned (.agg #[.int .i64 1, .int .i64 0, .int .i64 0, .int .i64 0])) (_root_.Go.World.setRow w1 (w.heap.size + 1) #[.int .i64 1, .int .i64 0, .int .i64 0, .int .i64 0])) := HFin.out ⟨1, 0, 0, 0⟩ _ HX.out (by have h := HDv.out; rw [if_pos rfl] at h; exact h)
    have HF : Hid ((_root_.Go.World.setRow w1 (w.heap.size + 1) #[.int .i64 1, .int .i64 0, .int .i64 0, .int .i64 0]).heap[w.heap.size + 1]? = some (.cells #[.int .i64 1, .int .i64 0, .int .i64 0, .int .i64 0] 28 (0, 0))) := setRow_heap _ _ _ _ _ _ HX.out.res
    have HRs := hid HX.out.res
    clear HX HFin
    have iD : (Tryd.prog.info? 28).map (·.size) = some (#[.int .i64 1, .int .i64 0, .int .i64 0, .int .i64 0] : Array Value).size := infoDec ⟨1, 0, 0, 0⟩
    have oD : (#[.int .i64 1, .int .i64 0, .int .i64 0, .int .i64 0] : Array Value).all (·.oneCell') = true := by simp [Value.oneCell']
    have zD : (#[.int .i64 0, .int .i64 0, .int .i64 0, .int .i64 0] : Array Value).size = (#[.int .i64 1, .int .i64 0, .int .i64 0, .int .i64 0] : Array Value).size := rfl
    go_wp2_with (refine wpList_store_row rfl 28 _ _ rfl (w.heap.size + 1) #[.int .i64 1, .int .i64 0, .int .i64 0, .int .i64 0] rfl rfl 28 _ HRs.out iD zD oD ?_)
    refine bodyPost_ret (v := .agg #[.int .i64 1, .int .i64 0, .int .i64 0, .int .i64 0]) (ret_dec rfl ⟨1, 0, 0, 0⟩ rfl HF.out) rfl ?_
    exact HE.out
  have hne : ((n : Int) == 0) = false := beq_eq_false_iff_ne.2 (by omega)
  have hnz : ¬ n = 0 := h0
  have hLn : c.slots ≠ [] := fun e => by have h := HN.out; rw [e] at h; exact h0 h.symm
  obtain ⟨sb, so, rfl, -, hsl⟩ := HC0.out.slots hLn
  have HSl : Hid (∀ j (h : j < c.slots.length), w1.cell? ⟨sb, so + j, none⟩ = some (.int .i64 c.slots[j])) := hsl
  have hpos : 0 < c.slots.length := by have := HN.out; omega
  have c00 := hsl 0 hpos
  have hg0 : c.slots[0] = s0 := by have h := HS0.out; rw [← h, List.getD_eq_getElem?_getD, List.getElem?_eq_getElem hpos]; rfl
  rw [hg0, Nat.add_zero] at c00
  have hz63 : (n : Int) ≤ 9223372036854775807 := by omega
  clear hsl hg0 hpos hLn
  go_wp2_with fail
  clear c00 hne
  go_loopw [4, 5, 6, 7] (fun c4 c5 c6 c7 wr => ∃ k : Nat, k ≤ n ∧ c7 = .int .i64 (k : Int) ∧ ∃ b4 b5 b6 : Bool, c4 = .bool b4 ∧ c5 = .bool b5 ∧ c6 = .bool b6 ∧ Hid (b4 = someB c.here k ∧ b5 = allB c.here k ∧ b6 = someB c.held k ∧ sameS c.slots s0 k = true) ∧ Hid (wr = w1)) (fun _ _ _ i _ => n - (intOf i).toNat)
  case atStart => exact ⟨0, Nat.zero_le _, rfl, false, true, false, rfl, rfl, rfl, ⟨rfl, rfl, rfl, rfl⟩, rfl⟩
  case round =>
    obtain ⟨k, hk, rfl, b4, b5, b6, rfl, rfl, rfl, HB, hw⟩ := hrel
    have hw2 : wr = w1 := hw
    subst hw2
    clear hw
    by_cases hlt : k < n
    · have hkz : (k : Int) < (n : Int) := by omega
      have hkL : k < c.slots.length := by have := HN.out; omega
      obtain ⟨sk, hsk⟩ : ∃ x, c.slots[k] = x := ⟨_, rfl⟩
      have ck := HSl.out k hkL
      rw [hsk] at ck
      have HGd : Hid (c.slots.getD k 0 = sk) := by show _ = _; rw [List.getD_eq_getElem?_getD, List.getElem?_eq_getElem hkL, hsk]; rfl
      clear hsk hkL
      by_cases hs : sk = s0
      · subst hs
        have hnn : (sk != sk) = false := by simp
        have HA1 := hid (hat_any h c.here c.here.length ch k wr rfl HC0.out.here (by omega))
        have HA2 := hid (hat_any d c.held c.held.length cd k wr rfl HC0.out.held (by omega))
        have HNx : Hid (someB c.here (k + 1) = (b4 || atB c.here k) ∧ allB c.here (k + 1) = (b5 && atB c.here k) ∧ someB c.held (k + 1) = (b6 || atB c.held k) ∧ sameS c.slots sk (k + 1) = true) := by
          obtain ⟨e1, e2, e3, e4⟩ := HB.out
          refine ⟨by rw [e1]; rfl, by rw [e2]; rfl, by rw [e3]; rfl, ?_⟩
          simp only [sameS, e4, HGd.out, decide_true, Bool.and_self]
        obtain ⟨nh, hnh⟩ : ∃ x, c.here.length = x := ⟨_, rfl⟩
        obtain ⟨nd, hnd⟩ : ∃ x, c.held.length = x := ⟨_, rfl⟩
        rw [hnh] at HA1 k7
        rw [hnd] at HA2 k8
        generalize atB c.here k = x1 at *
        generalize atB c.held k = x2 at *
        clear hnh hnd HGd
        go_wp2_with fail
        refine HA1.out.mono ?_; rintro r w3 ⟨rfl, rfl⟩
        cases x1 <;> (
          go_wp2_with fail
          refine HA2.out.mono ?_; rintro r w4 ⟨rfl, rfl⟩
          cases x2 <;> (
            go_wp2_with fail
            go_roundw
            case rel => exact ⟨k + 1, by omega, by go_num, _, _, _, rfl, rfl, rfl, ⟨by rw [HNx.out.1]; simp, by rw [HNx.out.2.1]; simp, by rw [HNx.out.2.2.1]; simp, HNx.out.2.2.2⟩, (by first | exact rfl | exact True.intro)⟩
            case measure => simp [intOf]; omega))
      · have hnn : (sk != s0) = true := bne_iff_ne.2 hs
        have HX := hid HD0.out
        have HNo : Hid (sameS c.slots s0 n = false) := sameS_not (k := k) (by rw [HGd.out]; exact hs) n hlt
        have HE : Hid (DecP DV w (.returned (.agg #[.int .i64 5, .int .i64 s0, .int .i64 0, .int .i64 0])) (_root_.Go.World.setRow wr (w.heap.size + 1) #[.int .i64 5, .int .i64 s0, .int .i64 0, .int .i64 0])) := HFin.out ⟨5, s0, 0, 0⟩ _ HX.out (by have h := HDv.out; rw [if_neg hnz, HNo.out, if_pos rfl] at h; exact h)
        have HF : Hid ((_root_.Go.World.setRow wr (w.heap.size + 1) #[.int .i64 5, .int .i64 s0, .int .i64 0, .int .i64 0]).heap[w.heap.size + 1]? = some (.cells #[.int .i64 5, .int .i64 s0, .int .i64 0, .int .i64 0] 28 (0, 0))) := setRow_heap _ _ _ _ _ _ HX.out.res
        have HRs := hid HX.out.res
        clear HX HFin
        have iD : (Tryd.prog.info? 28).map (·.size) = some (#[.int .i64 5, .int .i64 s0, .int .i64 0, .int .i64 0] : Array Value).size := infoDec ⟨5, s0, 0, 0⟩
        have oD : (#[.int .i64 5, .int .i64 s0, .int .i64 0, .int .i64 0] : Array Value).all (·.oneCell') = true := by simp [Value.oneCell']
        have zD : (#[.int .i64 0, .int .i64 0, .int .i64 0, .int .i64 0] : Array Value).size = (#[.int .i64 5, .int .i64 s0, .int .i64 0, .int .i64 0] : Array Value).size := rfl
        go_wp2_with (refine wpList_store_row rfl 28 _ _ rfl (w.heap.size + 1) #[.int .i64 5, .int .i64 s0, .int .i64 0, .int .i64 0] rfl rfl 28 _ HRs.out iD zD oD ?_)
        refine bodyPost_ret (v := .agg #[.int .i64 5, .int .i64 s0, .int .i64 0, .int .i64 0]) (ret_dec rfl ⟨5, s0, 0, 0⟩ rfl HF.out) rfl ?_
        exact HE.out
    · obtain rfl : k = n := by omega
      have HX := hid HD0.out
      have HDr : Hid (DV = restV c s0 b4 b5 b6) := by
        obtain ⟨e1, e2, e3, e4⟩ := HB.out
        have h := HDv.out
        rw [if_neg hnz, e4, if_neg (by decide), ← e1, ← e2, ← e3] at h
        exact h
      have HNk := hid HN.out
      obtain ⟨sf, hsf⟩ : ∃ x, c.self = x := ⟨_, rfl⟩
      obtain ⟨ow, how⟩ : ∃ x, c.owner = x := ⟨_, rfl⟩
      obtain ⟨mg, hmg⟩ : ∃ x, c.mig = x := ⟨_, rfl⟩
      obtain ⟨im, him⟩ : ∃ x, c.imp = x := ⟨_, rfl⟩
      obtain ⟨tk, htk⟩ : ∃ x, c.token = x := ⟨_, rfl⟩
      obtain ⟨ak, hak⟩ : ∃ x, c.asking = x := ⟨_, rfl⟩
      have HR : Hid (DV = if ow = sf then (if b6 = true then ⟨4, s0, 0, 0⟩ else if mg < 0 ∨ b5 = true then ⟨1, s0, 0, 0⟩ else if b4 = true then ⟨4, s0, 0, 0⟩ else ⟨3, s0, mg, tk⟩) else if 0 ≤ im ∧ 0 < ak ∧ ak = tk then (if b6 = true ∨ (1 < k ∧ b5 = false) then ⟨4, s0, 0, 0⟩ else ⟨1, s0, 0, 0⟩) else if ow < 0 then ⟨6, s0, 0, 0⟩ else ⟨2, s0, ow, 0⟩) := by
        have h := HDr.out
        unfold restV at h
        rw [hsf, how, hmg, him, htk, hak, HNk.out] at h
        exact h
      rw [hsf] at k0
      rw [how] at k1
      rw [hmg] at k2
      rw [him] at k3
      rw [htk] at k4
      rw [hak] at k5
      clear hsf how hmg him htk hak HDr HB HDv HC0 HSl HS0 HN HNk HCc
      by_cases h1 : ow = sf
      · subst h1
        have hee : (ow == ow) = true := by simp
        cases b6 with
        | true =>
          have HE : Hid (DecP DV w (.returned (.agg #[.int .i64 4, .int .i64 s0, .int .i64 0, .int .i64 0])) (_root_.Go.World.setRow wr (w.heap.size + 1) #[.int .i64 4, .int .i64 s0, .int .i64 0, .int .i64 0])) := HFin.out ⟨4, s0, 0, 0⟩ _ HX.out (by have h := HR.out; simpa using h)
          have HF : Hid ((_root_.Go.World.setRow wr (w.heap.size + 1) #[.int .i64 4, .int .i64 s0, .int .i64 0, .int .i64 0]).heap[w.heap.size + 1]? = some (.cells #[.int .i64 4, .int .i64 s0, .int .i64 0, .int .i64 0] 28 (0, 0))) := setRow_heap _ _ _ _ _ _ HX.out.res
          have HRs := hid HX.out.res
          clear HX HFin HR
          have iD : (Tryd.prog.info? 28).map (·.size) = some (#[.int .i64 4, .int .i64 s0, .int .i64 0, .int .i64 0] : Array Value).size := infoDec ⟨4, s0, 0, 0⟩
          have oD : (#[.int .i64 4, .int .i64 s0, .int .i64 0, .int .i64 0] : Array Value).all (·.oneCell') = true := by simp [Value.oneCell']
          have zD : (#[.int .i64 0, .int .i64 0, .int .i64 0, .int .i64 0] : Array Value).size = (#[.int .i64 4, .int .i64 s0, .int .i64 0, .int .i64 0] : Array Value).size := rfl
          go_wp2_with (refine wpList_store_row rfl 28 _ _ rfl (w.heap.size + 1) #[.int .i64 4, .int .i64 s0, .int .i64 0, .int .i64 0] rfl rfl 28 _ HRs.out iD zD oD ?_)
          refine bodyPost_ret (v := .agg #[.int .i64 4, .int .i64 s0, .int .i64 0, .int .i64 0]) (ret_dec rfl ⟨4, s0, 0, 0⟩ rfl HF.out) rfl ?_
          exact HE.out
        | false =>
          by_cases h2 : mg < 0
          · have hz2 : mg < 0 := h2
            have HE : Hid (DecP DV w (.returned (.agg #[.int .i64 1, .int .i64 s0, .int .i64 0, .int .i64 0])) (_root_.Go.World.setRow wr (w.heap.size + 1) #[.int .i64 1, .int .i64 s0, .int .i64 0, .int .i64 0])) := HFin.out ⟨1, s0, 0, 0⟩ _ HX.out (by have h := HR.out; simpa [h2] using h)
            have HF : Hid ((_root_.Go.World.setRow wr (w.heap.size + 1) #[.int .i64 1, .int .i64 s0, .int .i64 0, .int .i64 0]).heap[w.heap.size + 1]? = some (.cells #[.int .i64 1, .int .i64 s0, .int .i64 0, .int .i64 0] 28 (0, 0))) := setRow_heap _ _ _ _ _ _ HX.out.res
            have HRs := hid HX.out.res
            clear HX HFin HR
            have iD : (Tryd.prog.info? 28).map (·.size) = some (#[.int .i64 1, .int .i64 s0, .int .i64 0, .int .i64 0] : Array Value).size := infoDec ⟨1, s0, 0, 0⟩
            have oD : (#[.int .i64 1, .int .i64 s0, .int .i64 0, .int .i64 0] : Array Value).all (·.oneCell') = true := by simp [Value.oneCell']
            have zD : (#[.int .i64 0, .int .i64 0, .int .i64 0, .int .i64 0] : Array Value).size = (#[.int .i64 1, .int .i64 s0, .int .i64 0, .int .i64 0] : Array Value).size := rfl
            go_wp2_with (refine wpList_store_row rfl 28 _ _ rfl (w.heap.size + 1) #[.int .i64 1, .int .i64 s0, .int .i64 0, .int .i64 0] rfl rfl 28 _ HRs.out iD zD oD ?_)
            refine bodyPost_ret (v := .agg #[.int .i64 1, .int .i64 s0, .int .i64 0, .int .i64 0]) (ret_dec rfl ⟨1, s0, 0, 0⟩ rfl HF.out) rfl ?_
            exact HE.out
          have hz2 : ¬ mg < 0 := h2
          cases b5 with
          | true =>
            have HE : Hid (DecP DV w (.returned (.agg #[.int .i64 1, .int .i64 s0, .int .i64 0, .int .i64 0])) (_root_.Go.World.setRow wr (w.heap.size + 1) #[.int .i64 1, .int .i64 s0, .int .i64 0, .int .i64 0])) := HFin.out ⟨1, s0, 0, 0⟩ _ HX.out (by have h := HR.out; simpa using h)
            have HF : Hid ((_root_.Go.World.setRow wr (w.heap.size + 1) #[.int .i64 1, .int .i64 s0, .int .i64 0, .int .i64 0]).heap[w.heap.size + 1]? = some (.cells #[.int .i64 1, .int .i64 s0, .int .i64 0, .int .i64 0] 28 (0, 0))) := setRow_heap _ _ _ _ _ _ HX.out.res
            have HRs := hid HX.out.res
            clear HX HFin HR
            have iD : (Tryd.prog.info? 28).map (·.size) = some (#[.int .i64 1, .int .i64 s0, .int .i64 0, .int .i64 0] : Array Value).size := infoDec ⟨1, s0, 0, 0⟩
            have oD : (#[.int .i64 1, .int .i64 s0, .int .i64 0, .int .i64 0] : Array Value).all (·.oneCell') = true := by simp [Value.oneCell']
            have zD : (#[.int .i64 0, .int .i64 0, .int .i64 0, .int .i64 0] : Array Value).size = (#[.int .i64 1, .int .i64 s0, .int .i64 0, .int .i64 0] : Array Value).size := rfl
            go_wp2_with (refine wpList_store_row rfl 28 _ _ rfl (w.heap.size + 1) #[.int .i64 1, .int .i64 s0, .int .i64 0, .int .i64 0] rfl rfl 28 _ HRs.out iD zD oD ?_)
            refine bodyPost_ret (v := .agg #[.int .i64 1, .int .i64 s0, .int .i64 0, .int .i64 0]) (ret_dec rfl ⟨1, s0, 0, 0⟩ rfl HF.out) rfl ?_
            exact HE.out
          | false =>
            cases b4 with
            | true =>
              have HE : Hid (DecP DV w (.returned (.agg #[.int .i64 4, .int .i64 s0, .int .i64 0, .int .i64 0])) (_root_.Go.World.setRow wr (w.heap.size + 1) #[.int .i64 4, .int .i64 s0, .int .i64 0, .int .i64 0])) := HFin.out ⟨4, s0, 0, 0⟩ _ HX.out (by have h := HR.out; simpa [h2] using h)
              have HF : Hid ((_root_.Go.World.setRow wr (w.heap.size + 1) #[.int .i64 4, .int .i64 s0, .int .i64 0, .int .i64 0]).heap[w.heap.size + 1]? = some (.cells #[.int .i64 4, .int .i64 s0, .int .i64 0, .int .i64 0] 28 (0, 0))) := setRow_heap _ _ _ _ _ _ HX.out.res
              have HRs := hid HX.out.res
              clear HX HFin HR
              have iD : (Tryd.prog.info? 28).map (·.size) = some (#[.int .i64 4, .int .i64 s0, .int .i64 0, .int .i64 0] : Array Value).size := infoDec ⟨4, s0, 0, 0⟩
              have oD : (#[.int .i64 4, .int .i64 s0, .int .i64 0, .int .i64 0] : Array Value).all (·.oneCell') = true := by simp [Value.oneCell']
              have zD : (#[.int .i64 0, .int .i64 0, .int .i64 0, .int .i64 0] : Array Value).size = (#[.int .i64 4, .int .i64 s0, .int .i64 0, .int .i64 0] : Array Value).size := rfl
              go_wp2_with (refine wpList_store_row rfl 28 _ _ rfl (w.heap.size + 1) #[.int .i64 4, .int .i64 s0, .int .i64 0, .int .i64 0] rfl rfl 28 _ HRs.out iD zD oD ?_)
              refine bodyPost_ret (v := .agg #[.int .i64 4, .int .i64 s0, .int .i64 0, .int .i64 0]) (ret_dec rfl ⟨4, s0, 0, 0⟩ rfl HF.out) rfl ?_
              exact HE.out
            | false =>
              have HE : Hid (DecP DV w (.returned (.agg #[.int .i64 3, .int .i64 s0, .int .i64 mg, .int .i64 tk])) (_root_.Go.World.setRow wr (w.heap.size + 1) #[.int .i64 3, .int .i64 s0, .int .i64 mg, .int .i64 tk])) := HFin.out ⟨3, s0, mg, tk⟩ _ HX.out (by have h := HR.out; simpa [h2] using h)
              have HF : Hid ((_root_.Go.World.setRow wr (w.heap.size + 1) #[.int .i64 3, .int .i64 s0, .int .i64 mg, .int .i64 tk]).heap[w.heap.size + 1]? = some (.cells #[.int .i64 3, .int .i64 s0, .int .i64 mg, .int .i64 tk] 28 (0, 0))) := setRow_heap _ _ _ _ _ _ HX.out.res
              have HRs := hid HX.out.res
              clear HX HFin HR
              have iD : (Tryd.prog.info? 28).map (·.size) = some (#[.int .i64 3, .int .i64 s0, .int .i64 mg, .int .i64 tk] : Array Value).size := infoDec ⟨3, s0, mg, tk⟩
              have oD : (#[.int .i64 3, .int .i64 s0, .int .i64 mg, .int .i64 tk] : Array Value).all (·.oneCell') = true := by simp [Value.oneCell']
              have zD : (#[.int .i64 0, .int .i64 0, .int .i64 0, .int .i64 0] : Array Value).size = (#[.int .i64 3, .int .i64 s0, .int .i64 mg, .int .i64 tk] : Array Value).size := rfl
              go_wp2_with (first | (refine wpList_buildD4 rfl 3 _ _ _ rfl s0 mg tk rfl rfl rfl ?_) | (refine wpList_store_row rfl 28 _ _ rfl (w.heap.size + 1) #[.int .i64 3, .int .i64 s0, .int .i64 mg, .int .i64 tk] rfl rfl 28 _ HRs.out iD zD oD ?_))
              refine bodyPost_ret (v := .agg #[.int .i64 3, .int .i64 s0, .int .i64 mg, .int .i64 tk]) (ret_dec rfl ⟨3, s0, mg, tk⟩ rfl HF.out) rfl ?_
              exact HE.out
      have hee : (ow == sf) = false := beq_eq_false_iff_ne.2 h1
      have H1 := hid h1
      clear h1
      by_cases h3 : 0 ≤ im ∧ 0 < ak ∧ ak = tk
      · obtain ⟨i1, i2, rfl⟩ := h3
        have hkk : (ak == ak) = true := by simp
        cases b6 with
        | true =>
          have HE : Hid (DecP DV w (.returned (.agg #[.int .i64 4, .int .i64 s0, .int .i64 0, .int .i64 0])) (_root_.Go.World.setRow wr (w.heap.size + 1) #[.int .i64 4, .int .i64 s0, .int .i64 0, .int .i64 0])) := HFin.out ⟨4, s0, 0, 0⟩ _ HX.out (by have h := HR.out; rw [if_neg H1.out, if_pos ⟨i1, i2, rfl⟩] at h; simpa using h)
          have HF : Hid ((_root_.Go.World.setRow wr (w.heap.size + 1) #[.int .i64 4, .int .i64 s0, .int .i64 0, .int .i64 0]).heap[w.heap.size + 1]? = some (.cells #[.int .i64 4, .int .i64 s0, .int .i64 0, .int .i64 0] 28 (0, 0))) := setRow_heap _ _ _ _ _ _ HX.out.res
          have HRs := hid HX.out.res
          clear HX HFin HR
          have iD : (Tryd.prog.info? 28).map (·.size) = some (#[.int .i64 4, .int .i64 s0, .int .i64 0, .int .i64 0] : Array Value).size := infoDec ⟨4, s0, 0, 0⟩
          have oD : (#[.int .i64 4, .int .i64 s0, .int .i64 0, .int .i64 0] : Array Value).all (·.oneCell') = true := by simp [Value.oneCell']
          have zD : (#[.int .i64 0, .int .i64 0, .int .i64 0, .int .i64 0] : Array Value).size = (#[.int .i64 4, .int .i64 s0, .int .i64 0, .int .i64 0] : Array Value).size := rfl
          go_upto_region 27 with fail
          go_wp2_with (refine wpList_store_row rfl 28 _ _ rfl (w.heap.size + 1) #[.int .i64 4, .int .i64 s0, .int .i64 0, .int .i64 0] rfl rfl 28 _ HRs.out iD zD oD ?_)
          refine bodyPost_ret (v := .agg #[.int .i64 4, .int .i64 s0, .int .i64 0, .int .i64 0]) (ret_dec rfl ⟨4, s0, 0, 0⟩ rfl HF.out) rfl ?_
          exact HE.out
        | false =>
          by_cases h4 : 1 < k
          · have hz4 : (1 : Int) < (k : Int) := by omega
            cases b5 with
            | true =>
              have HE : Hid (DecP DV w (.returned (.agg #[.int .i64 1, .int .i64 s0, .int .i64 0, .int .i64 0])) (_root_.Go.World.setRow wr (w.heap.size + 1) #[.int .i64 1, .int .i64 s0, .int .i64 0, .int .i64 0])) := HFin.out ⟨1, s0, 0, 0⟩ _ HX.out (by have h := HR.out; rw [if_neg H1.out, if_pos ⟨i1, i2, rfl⟩] at h; simpa using h)
              have HF : Hid ((_root_.Go.World.setRow wr (w.heap.size + 1) #[.int .i64 1, .int .i64 s0, .int .i64 0, .int .i64 0]).heap[w.heap.size + 1]? = some (.cells #[.int .i64 1, .int .i64 s0, .int .i64 0, .int .i64 0] 28 (0, 0))) := setRow_heap _ _ _ _ _ _ HX.out.res
              have HRs := hid HX.out.res
              clear HX HFin HR
              have iD : (Tryd.prog.info? 28).map (·.size) = some (#[.int .i64 1, .int .i64 s0, .int .i64 0, .int .i64 0] : Array Value).size := infoDec ⟨1, s0, 0, 0⟩
              have oD : (#[.int .i64 1, .int .i64 s0, .int .i64 0, .int .i64 0] : Array Value).all (·.oneCell') = true := by simp [Value.oneCell']
              have zD : (#[.int .i64 0, .int .i64 0, .int .i64 0, .int .i64 0] : Array Value).size = (#[.int .i64 1, .int .i64 s0, .int .i64 0, .int .i64 0] : Array Value).size := rfl
              go_wp2_with (refine wpList_store_row rfl 28 _ _ rfl (w.heap.size + 1) #[.int .i64 1, .int .i64 s0, .int .i64 0, .int .i64 0] rfl rfl 28 _ HRs.out iD zD oD ?_)
              refine bodyPost_ret (v := .agg #[.int .i64 1, .int .i64 s0, .int .i64 0, .int .i64 0]) (ret_dec rfl ⟨1, s0, 0, 0⟩ rfl HF.out) rfl ?_
              exact HE.out
            | false =>
              have HE : Hid (DecP DV w (.returned (.agg #[.int .i64 4, .int .i64 s0, .int .i64 0, .int .i64 0])) (_root_.Go.World.setRow wr (w.heap.size + 1) #[.int .i64 4, .int .i64 s0, .int .i64 0, .int .i64 0])) := HFin.out ⟨4, s0, 0, 0⟩ _ HX.out (by have h := HR.out; rw [if_neg H1.out, if_pos ⟨i1, i2, rfl⟩] at h; simpa [h4] using h)
              have HF : Hid ((_root_.Go.World.setRow wr (w.heap.size + 1) #[.int .i64 4, .int .i64 s0, .int .i64 0, .int .i64 0]).heap[w.heap.size + 1]? = some (.cells #[.int .i64 4, .int .i64 s0, .int .i64 0, .int .i64 0] 28 (0, 0))) := setRow_heap _ _ _ _ _ _ HX.out.res
              have HRs := hid HX.out.res
              clear HX HFin HR
              have iD : (Tryd.prog.info? 28).map (·.size) = some (#[.int .i64 4, .int .i64 s0, .int .i64 0, .int .i64 0] : Array Value).size := infoDec ⟨4, s0, 0, 0⟩
              have oD : (#[.int .i64 4, .int .i64 s0, .int .i64 0, .int .i64 0] : Array Value).all (·.oneCell') = true := by simp [Value.oneCell']
              have zD : (#[.int .i64 0, .int .i64 0, .int .i64 0, .int .i64 0] : Array Value).size = (#[.int .i64 4, .int .i64 s0, .int .i64 0, .int .i64 0] : Array Value).size := rfl
              go_wp2_with (refine wpList_store_row rfl 28 _ _ rfl (w.heap.size + 1) #[.int .i64 4, .int .i64 s0, .int .i64 0, .int .i64 0] rfl rfl 28 _ HRs.out iD zD oD ?_)
              refine bodyPost_ret (v := .agg #[.int .i64 4, .int .i64 s0, .int .i64 0, .int .i64 0]) (ret_dec rfl ⟨4, s0, 0, 0⟩ rfl HF.out) rfl ?_
              exact HE.out
          · have hz4 : ¬ (1 : Int) < (k : Int) := by omega
            have HE : Hid (DecP DV w (.returned (.agg #[.int .i64 1, .int .i64 s0, .int .i64 0, .int .i64 0])) (_root_.Go.World.setRow wr (w.heap.size + 1) #[.int .i64 1, .int .i64 s0, .int .i64 0, .int .i64 0])) := HFin.out ⟨1, s0, 0, 0⟩ _ HX.out (by have h := HR.out; rw [if_neg H1.out, if_pos ⟨i1, i2, rfl⟩] at h; simpa [h4] using h)
            have HF : Hid ((_root_.Go.World.setRow wr (w.heap.size + 1) #[.int .i64 1, .int .i64 s0, .int .i64 0, .int .i64 0]).heap[w.heap.size + 1]? = some (.cells #[.int .i64 1, .int .i64 s0, .int .i64 0, .int .i64 0] 28 (0, 0))) := setRow_heap _ _ _ _ _ _ HX.out.res
            have HRs := hid HX.out.res
            clear HX HFin HR
            have iD : (Tryd.prog.info? 28).map (·.size) = some (#[.int .i64 1, .int .i64 s0, .int .i64 0, .int .i64 0] : Array Value).size := infoDec ⟨1, s0, 0, 0⟩
            have oD : (#[.int .i64 1, .int .i64 s0, .int .i64 0, .int .i64 0] : Array Value).all (·.oneCell') = true := by simp [Value.oneCell']
            have zD : (#[.int .i64 0, .int .i64 0, .int .i64 0, .int .i64 0] : Array Value).size = (#[.int .i64 1, .int .i64 s0, .int .i64 0, .int .i64 0] : Array Value).size := rfl
            go_wp2_with (refine wpList_store_row rfl 28 _ _ rfl (w.heap.size + 1) #[.int .i64 1, .int .i64 s0, .int .i64 0, .int .i64 0] rfl rfl 28 _ HRs.out iD zD oD ?_)
            refine bodyPost_ret (v := .agg #[.int .i64 1, .int .i64 s0, .int .i64 0, .int .i64 0]) (ret_dec rfl ⟨1, s0, 0, 0⟩ rfl HF.out) rfl ?_
            exact HE.out
      have H3 := hid h3
      clear h3
      by_cases i1 : 0 ≤ im
      · by_cases i2 : 0 < ak
        · have i3 : ¬ ak = tk := fun e => H3.out ⟨i1, i2, e⟩
          have hkk : (ak == tk) = false := beq_eq_false_iff_ne.2 i3
          by_cases h5 : ow < 0
          · have hz5 : ow < 0 := h5
            have HE : Hid (DecP DV w (.returned (.agg #[.int .i64 6, .int .i64 s0, .int .i64 0, .int .i64 0])) (_root_.Go.World.setRow wr (w.heap.size + 1) #[.int .i64 6, .int .i64 s0, .int .i64 0, .int .i64 0])) := HFin.out ⟨6, s0, 0, 0⟩ _ HX.out (by have h := HR.out; rw [if_neg H1.out, if_neg H3.out, if_pos h5] at h; exact h)
            have HF : Hid ((_root_.Go.World.setRow wr (w.heap.size + 1) #[.int .i64 6, .int .i64 s0, .int .i64 0, .int .i64 0]).heap[w.heap.size + 1]? = some (.cells #[.int .i64 6, .int .i64 s0, .int .i64 0, .int .i64 0] 28 (0, 0))) := setRow_heap _ _ _ _ _ _ HX.out.res
            have HRs := hid HX.out.res
            clear HX HFin HR
            have iD : (Tryd.prog.info? 28).map (·.size) = some (#[.int .i64 6, .int .i64 s0, .int .i64 0, .int .i64 0] : Array Value).size := infoDec ⟨6, s0, 0, 0⟩
            have oD : (#[.int .i64 6, .int .i64 s0, .int .i64 0, .int .i64 0] : Array Value).all (·.oneCell') = true := by simp [Value.oneCell']
            have zD : (#[.int .i64 0, .int .i64 0, .int .i64 0, .int .i64 0] : Array Value).size = (#[.int .i64 6, .int .i64 s0, .int .i64 0, .int .i64 0] : Array Value).size := rfl
            go_wp2_with (refine wpList_store_row rfl 28 _ _ rfl (w.heap.size + 1) #[.int .i64 6, .int .i64 s0, .int .i64 0, .int .i64 0] rfl rfl 28 _ HRs.out iD zD oD ?_)
            refine bodyPost_ret (v := .agg #[.int .i64 6, .int .i64 s0, .int .i64 0, .int .i64 0]) (ret_dec rfl ⟨6, s0, 0, 0⟩ rfl HF.out) rfl ?_
            exact HE.out
          have hz5 : ¬ ow < 0 := h5
          have HE : Hid (DecP DV w (.returned (.agg #[.int .i64 2, .int .i64 s0, .int .i64 ow, .int .i64 0])) (_root_.Go.World.setRow wr (w.heap.size + 1) #[.int .i64 2, .int .i64 s0, .int .i64 ow, .int .i64 0])) := HFin.out ⟨2, s0, ow, 0⟩ _ HX.out (by have h := HR.out; rw [if_neg H1.out, if_neg H3.out, if_neg h5] at h; exact h)
          have HF : Hid ((_root_.Go.World.setRow wr (w.heap.size + 1) #[.int .i64 2, .int .i64 s0, .int .i64 ow, .int .i64 0]).heap[w.heap.size + 1]? = some (.cells #[.int .i64 2, .int .i64 s0, .int .i64 ow, .int .i64 0] 28 (0, 0))) := setRow_heap _ _ _ _ _ _ HX.out.res
          have HRs := hid HX.out.res
          clear HX HFin HR
          have iD : (Tryd.prog.info? 28).map (·.size) = some (#[.int .i64 2, .int .i64 s0, .int .i64 ow, .int .i64 0] : Array Value).size := infoDec ⟨2, s0, ow, 0⟩
          have oD : (#[.int .i64 2, .int .i64 s0, .int .i64 ow, .int .i64 0] : Array Value).all (·.oneCell') = true := by simp [Value.oneCell']
          have zD : (#[.int .i64 0, .int .i64 0, .int .i64 0, .int .i64 0] : Array Value).size = (#[.int .i64 2, .int .i64 s0, .int .i64 ow, .int .i64 0] : Array Value).size := rfl
          go_wp2_with (refine wpList_store_row rfl 28 _ _ rfl (w.heap.size + 1) #[.int .i64 2, .int .i64 s0, .int .i64 ow, .int .i64 0] rfl rfl 28 _ HRs.out iD zD oD ?_)
          refine bodyPost_ret (v := .agg #[.int .i64 2, .int .i64 s0, .int .i64 ow, .int .i64 0]) (ret_dec rfl ⟨2, s0, ow, 0⟩ rfl HF.out) rfl ?_
          exact HE.out
        · have hz6 : ¬ 0 < ak := i2
          by_cases h5 : ow < 0
          · have hz5 : ow < 0 := h5
            have HE : Hid (DecP DV w (.returned (.agg #[.int .i64 6, .int .i64 s0, .int .i64 0, .int .i64 0])) (_root_.Go.World.setRow wr (w.heap.size + 1) #[.int .i64 6, .int .i64 s0, .int .i64 0, .int .i64 0])) := HFin.out ⟨6, s0, 0, 0⟩ _ HX.out (by have h := HR.out; rw [if_neg H1.out, if_neg H3.out, if_pos h5] at h; exact h)
            have HF : Hid ((_root_.Go.World.setRow wr (w.heap.size + 1) #[.int .i64 6, .int .i64 s0, .int .i64 0, .int .i64 0]).heap[w.heap.size + 1]? = some (.cells #[.int .i64 6, .int .i64 s0, .int .i64 0, .int .i64 0] 28 (0, 0))) := setRow_heap _ _ _ _ _ _ HX.out.res
            have HRs := hid HX.out.res
            clear HX HFin HR
            have iD : (Tryd.prog.info? 28).map (·.size) = some (#[.int .i64 6, .int .i64 s0, .int .i64 0, .int .i64 0] : Array Value).size := infoDec ⟨6, s0, 0, 0⟩
            have oD : (#[.int .i64 6, .int .i64 s0, .int .i64 0, .int .i64 0] : Array Value).all (·.oneCell') = true := by simp [Value.oneCell']
            have zD : (#[.int .i64 0, .int .i64 0, .int .i64 0, .int .i64 0] : Array Value).size = (#[.int .i64 6, .int .i64 s0, .int .i64 0, .int .i64 0] : Array Value).size := rfl
            go_wp2_with (refine wpList_store_row rfl 28 _ _ rfl (w.heap.size + 1) #[.int .i64 6, .int .i64 s0, .int .i64 0, .int .i64 0] rfl rfl 28 _ HRs.out iD zD oD ?_)
            refine bodyPost_ret (v := .agg #[.int .i64 6, .int .i64 s0, .int .i64 0, .int .i64 0]) (ret_dec rfl ⟨6, s0, 0, 0⟩ rfl HF.out) rfl ?_
            exact HE.out
          have hz5 : ¬ ow < 0 := h5
          have HE : Hid (DecP DV w (.returned (.agg #[.int .i64 2, .int .i64 s0, .int .i64 ow, .int .i64 0])) (_root_.Go.World.setRow wr (w.heap.size + 1) #[.int .i64 2, .int .i64 s0, .int .i64 ow, .int .i64 0])) := HFin.out ⟨2, s0, ow, 0⟩ _ HX.out (by have h := HR.out; rw [if_neg H1.out, if_neg H3.out, if_neg h5] at h; exact h)
          have HF : Hid ((_root_.Go.World.setRow wr (w.heap.size + 1) #[.int .i64 2, .int .i64 s0, .int .i64 ow, .int .i64 0]).heap[w.heap.size + 1]? = some (.cells #[.int .i64 2, .int .i64 s0, .int .i64 ow, .int .i64 0] 28 (0, 0))) := setRow_heap _ _ _ _ _ _ HX.out.res
          have HRs := hid HX.out.res
          clear HX HFin HR
          have iD : (Tryd.prog.info? 28).map (·.size) = some (#[.int .i64 2, .int .i64 s0, .int .i64 ow, .int .i64 0] : Array Value).size := infoDec ⟨2, s0, ow, 0⟩
          have oD : (#[.int .i64 2, .int .i64 s0, .int .i64 ow, .int .i64 0] : Array Value).all (·.oneCell') = true := by simp [Value.oneCell']
          have zD : (#[.int .i64 0, .int .i64 0, .int .i64 0, .int .i64 0] : Array Value).size = (#[.int .i64 2, .int .i64 s0, .int .i64 ow, .int .i64 0] : Array Value).size := rfl
          go_wp2_with (refine wpList_store_row rfl 28 _ _ rfl (w.heap.size + 1) #[.int .i64 2, .int .i64 s0, .int .i64 ow, .int .i64 0] rfl rfl 28 _ HRs.out iD zD oD ?_)
          refine bodyPost_ret (v := .agg #[.int .i64 2, .int .i64 s0, .int .i64 ow, .int .i64 0]) (ret_dec rfl ⟨2, s0, ow, 0⟩ rfl HF.out) rfl ?_
          exact HE.out
      · have hz6 : ¬ 0 ≤ im := i1
        by_cases h5 : ow < 0
        · have hz5 : ow < 0 := h5
          have HE : Hid (DecP DV w (.returned (.agg #[.int .i64 6, .int .i64 s0, .int .i64 0, .int .i64 0])) (_root_.Go.World.setRow wr (w.heap.size + 1) #[.int .i64 6, .int .i64 s0, .int .i64 0, .int .i64 0])) := HFin.out ⟨6, s0, 0, 0⟩ _ HX.out (by have h := HR.out; rw [if_neg H1.out, if_neg H3.out, if_pos h5] at h; exact h)
          have HF : Hid ((_root_.Go.World.setRow wr (w.heap.size + 1) #[.int .i64 6, .int .i64 s0, .int .i64 0, .int .i64 0]).heap[w.heap.size + 1]? = some (.cells #[.int .i64 6, .int .i64 s0, .int .i64 0, .int .i64 0] 28 (0, 0))) := setRow_heap _ _ _ _ _ _ HX.out.res
          have HRs := hid HX.out.res
          clear HX HFin HR
          have iD : (Tryd.prog.info? 28).map (·.size) = some (#[.int .i64 6, .int .i64 s0, .int .i64 0, .int .i64 0] : Array Value).size := infoDec ⟨6, s0, 0, 0⟩
          have oD : (#[.int .i64 6, .int .i64 s0, .int .i64 0, .int .i64 0] : Array Value).all (·.oneCell') = true := by simp [Value.oneCell']
          have zD : (#[.int .i64 0, .int .i64 0, .int .i64 0, .int .i64 0] : Array Value).size = (#[.int .i64 6, .int .i64 s0, .int .i64 0, .int .i64 0] : Array Value).size := rfl
          go_wp2_with (refine wpList_store_row rfl 28 _ _ rfl (w.heap.size + 1) #[.int .i64 6, .int .i64 s0, .int .i64 0, .int .i64 0] rfl rfl 28 _ HRs.out iD zD oD ?_)
          refine bodyPost_ret (v := .agg #[.int .i64 6, .int .i64 s0, .int .i64 0, .int .i64 0]) (ret_dec rfl ⟨6, s0, 0, 0⟩ rfl HF.out) rfl ?_
          exact HE.out
        have hz5 : ¬ ow < 0 := h5
        have HE : Hid (DecP DV w (.returned (.agg #[.int .i64 2, .int .i64 s0, .int .i64 ow, .int .i64 0])) (_root_.Go.World.setRow wr (w.heap.size + 1) #[.int .i64 2, .int .i64 s0, .int .i64 ow, .int .i64 0])) := HFin.out ⟨2, s0, ow, 0⟩ _ HX.out (by have h := HR.out; rw [if_neg H1.out, if_neg H3.out, if_neg h5] at h; exact h)
        have HF : Hid ((_root_.Go.World.setRow wr (w.heap.size + 1) #[.int .i64 2, .int .i64 s0, .int .i64 ow, .int .i64 0]).heap[w.heap.size + 1]? = some (.cells #[.int .i64 2, .int .i64 s0, .int .i64 ow, .int .i64 0] 28 (0, 0))) := setRow_heap _ _ _ _ _ _ HX.out.res
        have HRs := hid HX.out.res
        clear HX HFin HR
        have iD : (Tryd.prog.info? 28).map (·.size) = some (#[.int .i64 2, .int .i64 s0, .int .i64 ow, .int .i64 0] : Array Value).size := infoDec ⟨2, s0, ow, 0⟩
        have oD : (#[.int .i64 2, .int .i64 s0, .int .i64 ow, .int .i64 0] : Array Value).all (·.oneCell') = true := by simp [Value.oneCell']
        have zD : (#[.int .i64 0, .int .i64 0, .int .i64 0, .int .i64 0] : Array Value).size = (#[.int .i64 2, .int .i64 s0, .int .i64 ow, .int .i64 0] : Array Value).size := rfl
        go_wp2_with (refine wpList_store_row rfl 28 _ _ rfl (w.heap.size + 1) #[.int .i64 2, .int .i64 s0, .int .i64 ow, .int .i64 0] rfl rfl 28 _ HRs.out iD zD oD ?_)
        refine bodyPost_ret (v := .agg #[.int .i64 2, .int .i64 s0, .int .i64 ow, .int .i64 0]) (ret_dec rfl ⟨2, s0, ow, 0⟩ rfl HF.out) rfl ?_
        exact HE.out

end Go.Proofs.YtpmpndfinghlkaaDoor
