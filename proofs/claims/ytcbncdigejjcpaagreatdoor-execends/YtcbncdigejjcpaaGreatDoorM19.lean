/- Wr, WrV. -/
import Derived.Test.YtcbncdigejjcpaaGreatDoorM13
import Derived.Deep.RegionHeld3
namespace Go.Proofs.YtcbncdigejjcpaaGreatDoor
open Go.RowKit

/-- blocks that are no bytes are as they were -/
def Stl (W W' : World) : Prop := ∀ (k : Nat) (cs : Array Value) (t : TypeId) (f : Nat × Nat), W.heap[k]? = some (.cells cs t f) → t ≠ 5 → W'.heap[k]? = some (.cells cs t f)
theorem Stl.refl (W : World) : Stl W W := fun _ _ _ _ h _ => h
theorem Stl.trans {x y z : World} (h : Stl x y) (k : Stl y z) : Stl x z := fun i cs t f hi ht => k i cs t f (h i cs t f hi ht) ht
theorem Stl.of_below {x y : World} (h : Below x.heap.size x y) : Stl x y := fun i _ _ _ hi _ => (h.block i (Array.getElem?_eq_some_iff.1 hi).1).trans hi
theorem Stl.grown {W W' : World} {B : Nat} {v : Value} {n : Nat} {xs : List Value} (ho : W.ownsRow B 5 1 v n xs) (hg : W.grownBy W' v.ownBlock) : Stl W W' := fun k cs t f h ht => by
  have hk := (Array.getElem?_eq_some_iff.1 h).1
  rw [hg.block k hk ?_]
  · exact h
  · intro e
    rcases ho.2 with ⟨rfl, _⟩ | ⟨g, cap, cur, rfl, _, hc, _⟩
    · cases e
    · injection e with e
      subst e
      rw [hc] at h
      injection h with h
      injection h with _ h _
      exact ht h.symm
theorem Txt.str2 {B : Nat} {w1 W : World} {v : Value} {T : List UInt8} (h : Txt B w1 W v T) (l : List UInt8) (hT : T.length + l.length ≤ 140737488350000) :
    ∃ v' W', (Builtin.append_ #[104, 9] 104 #[v, .string ⟨l.toArray⟩]).run Tryz.prog W = .ok v' W' ∧ Txt B w1 W' v' (T ++ l) ∧ Stl W W' := by
  obtain ⟨i0, hi, hz0, hz1, hz2⟩ := info_parts info5
  have hs := h.size
  have hsz : (⟨l.toArray⟩ : ByteArray).size = l.length := by simp [ByteArray.size]
  obtain ⟨v', w', hrun, ho, hgr, _⟩ := Lib.run_append_own_string (P := Tryz.prog) W B 104 9 104 5 i0 Tryz.underlying104 Tryz.underlying9 hi hz0 hz1 hz2 _ _ _ h.own ⟨l.toArray⟩ (by rw [hsz]; unfold maxLen; omega) (by rw [hsz]; omega) hs
  refine ⟨v', w', hrun, ⟨?_, ?_, ?_⟩, Stl.grown h.own hgr⟩
  · rw [Lib.byteCells_append, List.length_append, ← hsz]
    exact ho
  · exact h.bel.grown hgr hs (fun k hk => (World.ownsRow.lt h.own k hk).1)
  · exact Nat.le_trans hs hgr.size
/-- a byte is put behind -/
theorem Txt.push {B : Nat} {w1 W : World} {v : Value} {T : List UInt8} (h : Txt B w1 W v T) (c : UInt8) (x : Int) (hx : x = (c.toNat : Int)) (hT : T.length ≤ 140737488340000) :
    ∃ v' W', (Builtin.append_ #[104, 104] 104 #[v, .slice (some ⟨W.heap.size, 0, none⟩) 1 1]).run Tryz.prog (W.alloc (.cells #[.int .u8 x] 5)) = .ok v' W' ∧ Txt B w1 W' v' (T ++ [c]) ∧ Stl W W' := by
  subst hx
  obtain ⟨i0, hi, hz0, hz1, hz2⟩ := info_parts info5
  have hb := below_alloc W (.cells #[.int .u8 (c.toNat : Int)] 5)
  have ho := owns_below h.own hb
  have hs := h.size
  obtain ⟨v', w', hrun, ho', hgr, _⟩ := run_append_own (P := Tryz.prog) (W.alloc (.cells #[.int .u8 (c.toNat : Int)] 5)) B 104 104 5 i0 (.int .u8 0) 1 1 Tryz.underlying104 hi hz0 hz1 hz2 rfl (by decide) _ _ _ ho ⟨W.heap.size, 0, none⟩ 1 1 [.int .u8 (c.toNat : Int)] rfl
    (fun j u' hj => by
      rw [Go.WideShapes.add_plain, cell_of_row _ _ _ _ _ _ (heap_alloc_new W _)]
      simpa using hj)
    (fun u' hu' => by rw [List.mem_singleton.1 hu']; rfl) (by unfold maxLen; omega) (by omega) (Nat.le_trans hs hb.size)
  refine ⟨v', w', hrun, ⟨?_, ?_, ?_⟩, (Stl.of_below hb).trans (Stl.grown ho hgr)⟩
  · rw [Lib.byteCells_append, List.length_append]
    exact ho'
  · exact (h.bel.trans (hb.mono hs)).grown hgr (Nat.le_trans hs hb.size) (fun k hk => (World.ownsRow.lt ho k hk).1)
  · exact Nat.le_trans (Nat.le_trans hs hb.size) hgr.size
theorem Txt.nil (w : World) : Txt w.heap.size w w (.slice none 0 0) [] := ⟨World.ownsRow_nil _ _ _ _, Below.refl _ _, Nat.le_refl _⟩
/-- what a call that puts bytes behind tells -/
def Puts (f : Nat) (args : Array Value) (B : Nat) (w1 W : World) (T : List UInt8) : Prop :=
  Calls Tryz.prog f args W fun e w' => ∃ q d, e = .returned (.slice q T.length d) ∧ Hid (Txt B w1 w' (.slice q T.length d) T ∧ Stl W w')
set_option maxHeartbeats 1000000 in
set_option maxRecDepth 100000 in
theorem apnum2_core (n : Int) (c1 c0 : UInt8) (h1 : IntKind.u8.wrap (n / 256) = (c1.toNat : Int)) (h0 : IntKind.u8.wrap n = (c0.toNat : Int)) (B : Nat) (w1 W : World) (q : Option Addr) (d : Nat) (T : List UInt8) (h : Txt B w1 W (.slice q T.length d) T) (hT : T.length ≤ 10000000) :
    Puts 192 #[.slice q T.length d, .int .i64 2, .int .i64 n] B w1 W (T ++ [c1] ++ [c0]) := by
  have H := hid h
  have HS := hid (Stl.refl W)
  have HT := hid hT
  obtain ⟨N, hN⟩ : ∃ N, N = T.length := ⟨_, rfl⟩
  rw [← hN] at H ⊢
  unfold Puts
  clear h hT hN
  go_enter Tryz.func192, Tryz.ntmps192
  go_wp2_with fail
  go_loopw [0, 7] (fun v0 v7 X => ∃ (q : Option Addr) (N d : Nat), v0 = .slice q N d ∧ Hid (Stl W X) ∧ ((v7 = .int .i64 1 ∧ Hid (Txt B w1 X (.slice q N d) (T))) ∨ (v7 = .int .i64 0 ∧ Hid (Txt B w1 X (.slice q N d) (T ++ [c1]))) ∨ (v7 = .int .i64 (-1) ∧ Hid (Txt B w1 X (.slice q N d) (T ++ [c1] ++ [c0]))))) (fun _ v7 _ => (intOf v7 + 1).toNat)
  case atStart => exact ⟨q, N, d, rfl, HS.out, .inl ⟨rfl, H.out⟩⟩
  case round =>
    obtain ⟨q, N, d, rfl, HS1, ⟨rfl, HX⟩ | ⟨rfl, HX⟩ | ⟨rfl, HX⟩⟩ := hrel
    · obtain ⟨v2, W2, hrun, h2, hs2⟩ := HX.out.push c1 _ rfl (by have := HT.out; simp; omega)
      obtain ⟨q2, d2, rfl⟩ := h2.shape
      obtain ⟨N2, hN2⟩ : ∃ N2, N2 = (T ++ [c1]).length := ⟨_, rfl⟩
      rw [← hN2] at h2 hrun
      have HR := hid hrun
      have H2 := hid h2
      have HS2 := hid (HS1.out.trans hs2)
      clear hrun h2 hs2 hN2
      go_wp2_with (refine wpList_append_runs rfl _ _ 104 104 rfl _ _ _ _ rfl rfl HR.out (Hid.out ?_))
      refine hid ?_
      go_wp2_with fail
      exact ⟨⟨q2, N2, d2, rfl, HS2.out, .inr (.inl ⟨rfl, H2.out⟩)⟩, by simp [intOf]⟩
    · obtain ⟨v2, W2, hrun, h2, hs2⟩ := HX.out.push c0 _ rfl (by have := HT.out; simp; omega)
      obtain ⟨q2, d2, rfl⟩ := h2.shape
      obtain ⟨N2, hN2⟩ : ∃ N2, N2 = (T ++ [c1] ++ [c0]).length := ⟨_, rfl⟩
      rw [← hN2] at h2 hrun
      have HR := hid hrun
      have H2 := hid h2
      have HS2 := hid (HS1.out.trans hs2)
      clear hrun h2 hs2 hN2
      go_wp2_with (refine wpList_append_runs rfl _ _ 104 104 rfl _ _ _ _ rfl rfl HR.out (Hid.out ?_))
      refine hid ?_
      go_wp2_with fail
      exact ⟨⟨q2, N2, d2, rfl, HS2.out, .inr (.inr (⟨rfl, H2.out⟩))⟩, by simp [intOf]⟩
    · have hl := HX.out.shape
      obtain ⟨q2, d2, hl⟩ := hl
      injection hl with e1 e2 e3
      subst e1 e3
      have HN := hid e2
      clear e2
      go_wp2_with fail
      go_ret
      have e := HN.out
      subst e
      exact ⟨q, d, rfl, HX.out, HS1.out⟩
set_option maxHeartbeats 1000000 in
set_option maxRecDepth 100000 in
theorem apnum4_core (n : Int) (c3 c2 c1 c0 : UInt8) (h3 : IntKind.u8.wrap (n / 16777216) = (c3.toNat : Int)) (h2 : IntKind.u8.wrap (n / 65536) = (c2.toNat : Int)) (h1 : IntKind.u8.wrap (n / 256) = (c1.toNat : Int)) (h0 : IntKind.u8.wrap n = (c0.toNat : Int)) (B : Nat) (w1 W : World) (q : Option Addr) (d : Nat) (T : List UInt8) (h : Txt B w1 W (.slice q T.length d) T) (hT : T.length ≤ 10000000) :
    Puts 192 #[.slice q T.length d, .int .i64 4, .int .i64 n] B w1 W (T ++ [c3] ++ [c2] ++ [c1] ++ [c0]) := by
  have H := hid h
  have HS := hid (Stl.refl W)
  have HT := hid hT
  obtain ⟨N, hN⟩ : ∃ N, N = T.length := ⟨_, rfl⟩
  rw [← hN] at H ⊢
  unfold Puts
  clear h hT hN
  go_enter Tryz.func192, Tryz.ntmps192
  go_wp2_with fail
  go_loopw [0, 7] (fun v0 v7 X => ∃ (q : Option Addr) (N d : Nat), v0 = .slice q N d ∧ Hid (Stl W X) ∧ ((v7 = .int .i64 3 ∧ Hid (Txt B w1 X (.slice q N d) (T))) ∨ (v7 = .int .i64 2 ∧ Hid (Txt B w1 X (.slice q N d) (T ++ [c3]))) ∨ (v7 = .int .i64 1 ∧ Hid (Txt B w1 X (.slice q N d) (T ++ [c3] ++ [c2]))) ∨ (v7 = .int .i64 0 ∧ Hid (Txt B w1 X (.slice q N d) (T ++ [c3] ++ [c2] ++ [c1]))) ∨ (v7 = .int .i64 (-1) ∧ Hid (Txt B w1 X (.slice q N d) (T ++ [c3] ++ [c2] ++ [c1] ++ [c0]))))) (fun _ v7 _ => (intOf v7 + 1).toNat)
  case atStart => exact ⟨q, N, d, rfl, HS.out, .inl ⟨rfl, H.out⟩⟩
  case round =>
    obtain ⟨q, N, d, rfl, HS1, ⟨rfl, HX⟩ | ⟨rfl, HX⟩ | ⟨rfl, HX⟩ | ⟨rfl, HX⟩ | ⟨rfl, HX⟩⟩ := hrel
    · obtain ⟨v2, W2, hrun, h2, hs2⟩ := HX.out.push c3 _ rfl (by have := HT.out; simp; omega)
      obtain ⟨q2, d2, rfl⟩ := h2.shape
      obtain ⟨N2, hN2⟩ : ∃ N2, N2 = (T ++ [c3]).length := ⟨_, rfl⟩
      rw [← hN2] at h2 hrun
      have HR := hid hrun
      have H2 := hid h2
      have HS2 := hid (HS1.out.trans hs2)
      clear hrun h2 hs2 hN2
      go_wp2_with (refine wpList_append_runs rfl _ _ 104 104 rfl _ _ _ _ rfl rfl HR.out (Hid.out ?_))
      refine hid ?_
      go_wp2_with fail
      exact ⟨⟨q2, N2, d2, rfl, HS2.out, .inr (.inl ⟨rfl, H2.out⟩)⟩, by simp [intOf]⟩
    · obtain ⟨v2, W2, hrun, h2, hs2⟩ := HX.out.push c2 _ rfl (by have := HT.out; simp; omega)
      obtain ⟨q2, d2, rfl⟩ := h2.shape
      obtain ⟨N2, hN2⟩ : ∃ N2, N2 = (T ++ [c3] ++ [c2]).length := ⟨_, rfl⟩
      rw [← hN2] at h2 hrun
      have HR := hid hrun
      have H2 := hid h2
      have HS2 := hid (HS1.out.trans hs2)
      clear hrun h2 hs2 hN2
      go_wp2_with (refine wpList_append_runs rfl _ _ 104 104 rfl _ _ _ _ rfl rfl HR.out (Hid.out ?_))
      refine hid ?_
      go_wp2_with fail
      exact ⟨⟨q2, N2, d2, rfl, HS2.out, .inr (.inr (.inl ⟨rfl, H2.out⟩))⟩, by simp [intOf]⟩
    · obtain ⟨v2, W2, hrun, h2, hs2⟩ := HX.out.push c1 _ rfl (by have := HT.out; simp; omega)
      obtain ⟨q2, d2, rfl⟩ := h2.shape
      obtain ⟨N2, hN2⟩ : ∃ N2, N2 = (T ++ [c3] ++ [c2] ++ [c1]).length := ⟨_, rfl⟩
      rw [← hN2] at h2 hrun
      have HR := hid hrun
      have H2 := hid h2
      have HS2 := hid (HS1.out.trans hs2)
      clear hrun h2 hs2 hN2
      go_wp2_with (refine wpList_append_runs rfl _ _ 104 104 rfl _ _ _ _ rfl rfl HR.out (Hid.out ?_))
      refine hid ?_
      go_wp2_with fail
      exact ⟨⟨q2, N2, d2, rfl, HS2.out, .inr (.inr (.inr (.inl ⟨rfl, H2.out⟩)))⟩, by simp [intOf]⟩
    · obtain ⟨v2, W2, hrun, h2, hs2⟩ := HX.out.push c0 _ rfl (by have := HT.out; simp; omega)
      obtain ⟨q2, d2, rfl⟩ := h2.shape
      obtain ⟨N2, hN2⟩ : ∃ N2, N2 = (T ++ [c3] ++ [c2] ++ [c1] ++ [c0]).length := ⟨_, rfl⟩
      rw [← hN2] at h2 hrun
      have HR := hid hrun
      have H2 := hid h2
      have HS2 := hid (HS1.out.trans hs2)
      clear hrun h2 hs2 hN2
      go_wp2_with (refine wpList_append_runs rfl _ _ 104 104 rfl _ _ _ _ rfl rfl HR.out (Hid.out ?_))
      refine hid ?_
      go_wp2_with fail
      exact ⟨⟨q2, N2, d2, rfl, HS2.out, .inr (.inr (.inr (.inr (⟨rfl, H2.out⟩))))⟩, by simp [intOf]⟩
    · have hl := HX.out.shape
      obtain ⟨q2, d2, hl⟩ := hl
      injection hl with e1 e2 e3
      subst e1 e3
      have HN := hid e2
      clear e2
      go_wp2_with fail
      go_ret
      have e := HN.out
      subst e
      exact ⟨q, d, rfl, HX.out, HS1.out⟩
/-- a number in two bytes -/
theorem apnum2_any (n : Nat) (B : Nat) (w1 W : World) (q : Option Addr) (d : Nat) (T : List UInt8) (h : Txt B w1 W (.slice q T.length d) T) (hT : T.length ≤ 10000000) :
    Puts 192 #[.slice q T.length d, .int .i64 2, .int .i64 n] B w1 W (T ++ two n) := by
  have := apnum2_core (n : Int) (UInt8.ofNat (n / 256)) (UInt8.ofNat (n % 256)) (by rw [IntKind.wrap_u8, UInt8.toNat_ofNat']; omega) (by rw [IntKind.wrap_u8, UInt8.toNat_ofNat']; omega) B w1 W q d T h hT
  rw [List.append_assoc] at this
  exact this
/-- a point's part -/
theorem apnum4_any (n : Int) (hn0 : -1048576 ≤ n) (hn1 : n ≤ 1048576) (B : Nat) (w1 W : World) (q : Option Addr) (d : Nat) (T : List UInt8) (h : Txt B w1 W (.slice q T.length d) T) (hT : T.length ≤ 10000000) :
    Puts 192 #[.slice q T.length d, .int .i64 4, .int .i64 n] B w1 W (T ++ part n) := by
  obtain ⟨z, hz⟩ : ∃ z : Nat, z = (n % 4294967296).toNat := ⟨_, rfl⟩
  have := apnum4_core n (UInt8.ofNat (z / 65536 / 256)) (UInt8.ofNat (z / 65536 % 256)) (UInt8.ofNat (z % 65536 / 256)) (UInt8.ofNat (z % 65536 % 256)) (by rw [IntKind.wrap_u8, UInt8.toNat_ofNat']; omega) (by rw [IntKind.wrap_u8, UInt8.toNat_ofNat']; omega) (by rw [IntKind.wrap_u8, UInt8.toNat_ofNat']; omega) (by rw [IntKind.wrap_u8, UInt8.toNat_ofNat']; omega) B w1 W q d T h hT
  rw [List.append_assoc, List.append_assoc, List.append_assoc] at this
  unfold part
  rw [← hz]
  exact this
set_option maxHeartbeats 1000000 in
set_option maxRecDepth 100000 in
/-- a text -/
theorem aptext_any (s : Nm) (hs : s.length < 65536) (B : Nat) (w1 W : World) (q : Option Addr) (d : Nat) (T : List UInt8) (h : Txt B w1 W (.slice q T.length d) T) (hT : T.length ≤ 9000000) :
    Puts 236 #[.slice q T.length d, txt s] B w1 W (T ++ tx s) := by
  have H1 := hid (apnum2_any s.length B w1 W q d T h (by omega))
  have HE : Hid (T ++ tx s = T ++ two s.length ++ s) := by show T ++ (two s.length ++ s) = _; rw [List.append_assoc]
  have HL : Hid ((T ++ two s.length).length ≤ 9000002) := by show _ ≤ _; rw [List.length_append, two_len]; omega
  have hsz : (s.length : Int) < 65536 := by omega
  have HSl := hid hs
  unfold Puts at H1 ⊢
  generalize T ++ tx s = R at *
  generalize T ++ two s.length = T2 at *
  obtain ⟨N, hN⟩ : ∃ N, N = T.length := ⟨_, rfl⟩
  rw [← hN] at H1 ⊢
  clear h hT hs hN
  go_enter Tryz.func236, Tryz.ntmps236
  go_wp2_with fail
  refine H1.out.mono ?_; rintro e w2 ⟨q2, d2, rfl, hh⟩
  obtain ⟨v3, W3, hrun, h3, hs3⟩ := hh.out.1.str2 s (by have := HL.out; have := HSl.out; omega)
  rw [← HE.out] at h3
  obtain ⟨q3, d3, rfl⟩ := h3.shape
  have HR := hid hrun
  have H3 := hid h3
  have HS3 := hid (hh.out.2.trans hs3)
  clear hrun h3 hs3 hh
  go_wp2_with (refine wpList_append_runs rfl _ _ 104 9 rfl _ _ _ _ rfl rfl HR.out (Hid.out ?_))
  refine hid ?_
  go_wp2_with fail
  go_ret
  exact ⟨q3, d3, rfl, H3.out, HS3.out⟩
/-- the same, the row's length being a name -/
def PutsN (f : Nat) (args : Array Value) (B : Nat) (w1 W : World) (T : List UInt8) : Prop :=
  Calls Tryz.prog f args W fun e w' => ∃ q N d, e = .returned (.slice q N d) ∧ Hid (Txt B w1 w' (.slice q N d) T ∧ Stl W w')
theorem Puts.n {f : Nat} {args : Array Value} {B : Nat} {w1 W : World} {T : List UInt8} (h : Puts f args B w1 W T) : PutsN f args B w1 W T := by
  refine h.mono ?_
  rintro e w' ⟨q, d, rfl, hh⟩
  exact ⟨q, _, d, rfl, hh⟩
theorem Txt.num {B : Nat} {w1 W : World} {q : Option Addr} {N d : Nat} {T : List UInt8} (h : Txt B w1 W (.slice q N d) T) : N = T.length := by
  obtain ⟨q', d', hl⟩ := h.shape
  injection hl
theorem apnum2_n (n : Nat) (B : Nat) (w1 W : World) (q : Option Addr) (N d : Nat) (T : List UInt8) (h : Txt B w1 W (.slice q N d) T) (hT : T.length ≤ 10000000) : PutsN 192 #[.slice q N d, .int .i64 2, .int .i64 n] B w1 W (T ++ two n) := by
  obtain rfl := h.num
  exact (apnum2_any n B w1 W q d T h hT).n
theorem apnum4_n (n : Int) (hn0 : -1048576 ≤ n) (hn1 : n ≤ 1048576) (B : Nat) (w1 W : World) (q : Option Addr) (N d : Nat) (T : List UInt8) (h : Txt B w1 W (.slice q N d) T) (hT : T.length ≤ 10000000) : PutsN 192 #[.slice q N d, .int .i64 4, .int .i64 n] B w1 W (T ++ part n) := by
  obtain rfl := h.num
  exact (apnum4_any n hn0 hn1 B w1 W q d T h hT).n
theorem aptext_n (s : Nm) (hs : s.length < 65536) (B : Nat) (w1 W : World) (q : Option Addr) (N d : Nat) (T : List UInt8) (h : Txt B w1 W (.slice q N d) T) (hT : T.length ≤ 9000000) : PutsN 236 #[.slice q N d, txt s] B w1 W (T ++ tx s) := by
  obtain rfl := h.num
  exact (aptext_any s hs B w1 W q d T h hT).n

end Go.Proofs.YtcbncdigejjcpaaGreatDoor

namespace Go.Proofs.YtcbncdigejjcpaaGreatDoor
open Go.RowKit

/-- what appendValue tells -/
def Bodies (m : Vl) (pp : Option Addr) (pc' : Nat) (ip : Option Addr) (ic : Nat) (w : World) : Prop :=
  Calls Tryz.prog 191 #[.slice none 0 0, vv m pp pc' ip ic] w fun e w' => ∃ q d, e = .returned (.slice q (bodyV m).length d) ∧ Hid (w'.ownsRow w.heap.size 5 1 (.slice q (bodyV m).length d) (bodyV m).length (Lib.byteCells (bodyV m)) ∧ Below w.heap.size w w')
theorem body_start (w : World) (o : Obj) (c : UInt8) (x : Int) (hx : x = (c.toNat : Int)) :
    ∃ q d W', (Builtin.append_ #[104, 104] 104 #[.slice none 0 0, .slice (some ⟨w.heap.size + 1, 0, none⟩) 1 1]).run Tryz.prog ((w.alloc o).alloc (.cells #[.int .u8 x] 5)) = .ok (.slice q 1 d) W' ∧ Txt (w.heap.size + 1) (w.alloc o) W' (.slice q 1 d) [c] := by
  obtain ⟨v', W', h1, h2, h3⟩ := (Txt.nil (w.alloc o)).push c x hx (by simp)
  rw [show (w.alloc o).heap.size = w.heap.size + 1 by simp] at h1 h2
  obtain ⟨q, d, rfl⟩ := h2.shape
  exact ⟨q, d, W', h1, h2⟩
theorem bodies_of {m : Vl} {w w' : World} {o : Obj} {q : Option Addr} {N d : Nat} (h : Txt (w.heap.size + 1) (w.alloc o) w' (.slice q N d) (bodyV m)) : ∃ q' d', Ending.returned (.slice q N d) = .returned (.slice q' (bodyV m).length d') ∧ Hid (w'.ownsRow w.heap.size 5 1 (.slice q' (bodyV m).length d') (bodyV m).length (Lib.byteCells (bodyV m)) ∧ Below w.heap.size w w') := by
  obtain rfl := h.num
  exact ⟨q, d, rfl, ownsRow_base h.own (by omega), box_below h.bel⟩

set_option maxHeartbeats 4000000 in
set_option maxRecDepth 100000 in
theorem apv_1 (t : Nm) (ht : t.length ≤ 4096) (pp : Option Addr) (pc' : Nat) (ip : Option Addr) (ic : Nat) (w : World) (hV : VI w ⟨1, t, [], [], 0, 0⟩ pp pc' ip ic) : Bodies ⟨1, t, [], [], 0, 0⟩ pp pc' ip ic w := by
  have HV := hid hV
  clear hV
  obtain ⟨q1, d1, W1, hrun, h1⟩ := body_start w (vob ⟨1, t, [], [], 0, 0⟩ pp pc' ip ic) 1 1 rfl
  have HR1 := hid hrun
  have H1 := hid h1
  obtain ⟨c0, c1, c2, c3, c4, c5⟩ := val_facts (val_new w ⟨1, t, [], [], 0, 0⟩ pp pc' ip ic)
  have wk : IntKind.u8.wrap (1 : Int) = 1 := rfl
  clear hrun h1
  have HT := hid (fun W q d h => aptext_n t (by omega) (w.heap.size + 1) (w.alloc (vob ⟨1, t, [], [], 0, 0⟩ pp pc' ip ic)) W q 1 d [1] h (by decide))
  have htz : (t.length : Int) ≤ 4096 := by omega
  unfold Bodies
  go_enter Tryz.func191, Tryz.ntmps191
  go_wp2_with (refine wpList_append_runs rfl _ _ 104 104 rfl _ _ _ _ rfl rfl HR1.out (Hid.out ?_))
  refine hid ?_
  clear c0 c1 c2 c3 c4 c5
  obtain ⟨c0, c1, c2, c3, c4, c5⟩ := val_facts (box_kept H1.out.bel)
  go_wp2_with fail
  refine (HT.out _ _ _ H1.out).mono ?_; rintro e w2 ⟨q2, N2, d2, rfl, hh⟩
  have H2 := hid hh.out.1
  clear hh
  go_wp2_with fail
  go_ret
  exact bodies_of H2.out
set_option maxHeartbeats 4000000 in
set_option maxRecDepth 100000 in
theorem apv_5 (x y : Int) (hr : rtP x y) (pp : Option Addr) (pc' : Nat) (ip : Option Addr) (ic : Nat) (w : World) (hV : VI w ⟨5, [], [], [], x, y⟩ pp pc' ip ic) : Bodies ⟨5, [], [], [], x, y⟩ pp pc' ip ic w := by
  have HV := hid hV
  clear hV
  obtain ⟨q1, d1, W1, hrun, h1⟩ := body_start w (vob ⟨5, [], [], [], x, y⟩ pp pc' ip ic) 5 5 rfl
  have HR1 := hid hrun
  have H1 := hid h1
  obtain ⟨c0, c1, c2, c3, c4, c5⟩ := val_facts (val_new w ⟨5, [], [], [], x, y⟩ pp pc' ip ic)
  have wk : IntKind.u8.wrap (5 : Int) = 5 := rfl
  clear hrun h1
  have HT := hid (fun W q d h => apnum4_n x hr.1 hr.2.1 (w.heap.size + 1) (w.alloc (vob ⟨5, [], [], [], x, y⟩ pp pc' ip ic)) W q 1 d [5] h (by decide))
  have HU := hid (fun W q N d h => apnum4_n y hr.2.2.1 hr.2.2.2 (w.heap.size + 1) (w.alloc (vob ⟨5, [], [], [], x, y⟩ pp pc' ip ic)) W q N d ([5] ++ part x) h (by show 5 ≤ _; omega))
  have HE : Hid ([5] ++ part x ++ part y = bodyV ⟨5, [], [], [], x, y⟩) := by show _ = 5 :: (part x ++ part y); simp
  clear hr
  unfold Bodies
  go_enter Tryz.func191, Tryz.ntmps191
  go_wp2_with (refine wpList_append_runs rfl _ _ 104 104 rfl _ _ _ _ rfl rfl HR1.out (Hid.out ?_))
  refine hid ?_
  clear c0 c1 c2 c3 c4 c5
  obtain ⟨c0, c1, c2, c3, c4, c5⟩ := val_facts (box_kept H1.out.bel)
  go_wp2_with fail
  refine (HT.out _ _ _ H1.out).mono ?_; rintro e w2 ⟨q2, N2, d2, rfl, hh⟩
  have H2 := hid hh.out.1
  clear hh
  clear c0 c1 c2 c3 c4 c5
  obtain ⟨c0, c1, c2, c3, c4, c5⟩ := val_facts (box_kept H2.out.bel)
  go_wp2_with fail
  refine (HU.out _ _ _ _ H2.out).mono ?_; rintro e w3 ⟨q3, N3, d3, rfl, hh⟩
  have h3 := hh.out.1
  rw [HE.out] at h3
  have H3 := hid h3
  clear hh h3
  go_wp2_with fail
  go_ret
  exact bodies_of H3.out
set_option maxHeartbeats 4000000 in
set_option maxRecDepth 100000 in
theorem apv_3 (is : List Nm) (hf : Fits is) (pp : Option Addr) (pc' : Nat) (ip : Option Addr) (ic : Nat) (w : World) (hV : VI w ⟨3, [], [], is, 0, 0⟩ pp pc' ip ic) : Bodies ⟨3, [], [], is, 0, 0⟩ pp pc' ip ic w := by
  have HV := hid hV
  clear hV
  obtain ⟨q1, d1, W1, hrun, h1⟩ := body_start w (vob ⟨3, [], [], is, 0, 0⟩ pp pc' ip ic) 3 3 rfl
  have HR1 := hid hrun
  have H1 := hid h1
  obtain ⟨c0, c1, c2, c3, c4, c5⟩ := val_facts (val_new w ⟨3, [], [], is, 0, 0⟩ pp pc' ip ic)
  have wk : IntKind.u8.wrap (3 : Int) = 3 := rfl
  clear hrun h1
  obtain ⟨f1, f2, f3⟩ := hf
  have HFt := hid f1
  have HN := hid (fun W q d h => apnum2_n is.length (w.heap.size + 1) (w.alloc (vob ⟨3, [], [], is, 0, 0⟩ pp pc' ip ic)) W q 1 d [3] h (by decide))
  have HT := hid (fun W q N d T h hT s hs => aptext_n s hs (w.heap.size + 1) (w.alloc (vob ⟨3, [], [], is, 0, 0⟩ pp pc' ip ic)) W q N d T h hT)
  have HE : Hid (([3] ++ two is.length) ++ is.flatMap tx = bodyV ⟨3, [], [], is, 0, 0⟩) := by show _ = 3 :: (two is.length ++ is.flatMap tx); simp
  have HL : Hid (∀ k, ((is.take k).flatMap tx).length ≤ 1026 * k) := flat_le HFt.out
  have hlz : (is.length : Int) ≤ 256 := by omega
  clear f1
  unfold Bodies
  go_enter Tryz.func191, Tryz.ntmps191
  go_wp2_with (refine wpList_append_runs rfl _ _ 104 104 rfl _ _ _ _ rfl rfl HR1.out (Hid.out ?_))
  refine hid ?_
  clear c0 c1 c2 c3 c4 c5
  obtain ⟨c0, c1, c2, c3, c4, c5⟩ := val_facts (box_kept H1.out.bel)
  go_wp2_with fail
  refine (HN.out _ _ _ H1.out).mono ?_; rintro e w2 ⟨q2, N2, d2, rfl, hh⟩
  have H2 := hid hh.out.1
  clear hh
  clear c0 c1 c2 c3 c4 c5
  obtain ⟨c0, c1, c2, c3, c4, c5⟩ := val_facts (box_kept H2.out.bel)
  go_wp2_with fail
  go_loopw [0, 8, 56] (fun v0 _ v56 W => ∃ (i : Nat) (q : Option Addr) (n d : Nat), v56 = .int .i64 i ∧ v0 = .slice q n d ∧ i ≤ is.length ∧ Hid (Txt (w.heap.size + 1) (w.alloc (vob ⟨3, [], [], is, 0, 0⟩ pp pc' ip ic)) W (.slice q n d) (([3] ++ two is.length) ++ (is.take i).flatMap tx))) (fun _ _ v56 _ => is.length - (intOf v56).toNat)
  case atStart => exact ⟨0, q2, N2, d2, rfl, rfl, Nat.zero_le _, by rw [List.take_zero, List.flatMap_nil, List.append_nil]; exact H2.out⟩
  case round =>
    obtain ⟨i, q, n, d, rfl, rfl, hi, HO⟩ := hrel
    clear c0 c1 c2 c3 c4 c5
    obtain ⟨c0, c1, c2, c3, c4, c5⟩ := val_facts (box_kept HO.out.bel)
    by_cases hlt : i < is.length
    · have hiz : (i : Int) < (is.length : Int) := by omega
      have HVW := hid (HV.out.below (box_below HO.out.bel))
      obtain ⟨b, o, hip, hc⟩ := HVW.out.items.strs (fun e => by rw [show is = [] from e] at hlt; simp at hlt)
      have x0 := hc i hlt
      have HIn : Hid (is[i].length ≤ 1024) := HFt.out _ (List.getElem_mem hlt)
      have HS : Hid ((([3] ++ two is.length) ++ (is.take (i + 1)).flatMap tx) = (([3] ++ two is.length) ++ (is.take i).flatMap tx) ++ tx is[i]) := by
        rw [Hid, List.take_succ_eq_append_getElem hlt, List.flatMap_append]; simp
      subst hip
      dsimp only at x0
      have hl1 := HL.out i
      have HTi := hid (HT.out wr q n d _ HO.out (by rw [List.length_append]; show 3 + _ ≤ _; omega) is[i] (by have := HIn.out; omega))
      rw [← HS.out] at HTi
      generalize is[i] = t at *
      clear hc HVW
      go_wp2_with fail
      refine HTi.out.mono ?_; rintro e w3 ⟨q4, N4, d4, rfl, hh⟩
      have H4 := hid hh.out.1
      clear hh
      go_wp2_with fail
      exact ⟨⟨i + 1, q4, N4, d4, by go_num, rfl, by omega, H4.out⟩, by simp [intOf]; omega⟩
    · have hge : (is.length : Int) ≤ (i : Int) := by omega
      have HO2 : Hid (Txt (w.heap.size + 1) (w.alloc (vob ⟨3, [], [], is, 0, 0⟩ pp pc' ip ic)) wr (.slice q n d) (bodyV ⟨3, [], [], is, 0, 0⟩)) := by
        rw [← HE.out]; have := HO.out; rwa [List.take_of_length_le (by omega)] at this
      go_wp2_with fail
      go_ret
      exact bodies_of HO2.out
set_option maxHeartbeats 4000000 in
set_option maxRecDepth 100000 in
theorem apv_4 (is : List Nm) (hf : Fits is) (pp : Option Addr) (pc' : Nat) (ip : Option Addr) (ic : Nat) (w : World) (hV : VI w ⟨4, [], [], is, 0, 0⟩ pp pc' ip ic) : Bodies ⟨4, [], [], is, 0, 0⟩ pp pc' ip ic w := by
  have HV := hid hV
  clear hV
  obtain ⟨q1, d1, W1, hrun, h1⟩ := body_start w (vob ⟨4, [], [], is, 0, 0⟩ pp pc' ip ic) 4 4 rfl
  have HR1 := hid hrun
  have H1 := hid h1
  obtain ⟨c0, c1, c2, c3, c4, c5⟩ := val_facts (val_new w ⟨4, [], [], is, 0, 0⟩ pp pc' ip ic)
  have wk : IntKind.u8.wrap (4 : Int) = 4 := rfl
  clear hrun h1
  obtain ⟨f1, f2, f3⟩ := hf
  have HFt := hid f1
  have HN := hid (fun W q d h => apnum2_n is.length (w.heap.size + 1) (w.alloc (vob ⟨4, [], [], is, 0, 0⟩ pp pc' ip ic)) W q 1 d [4] h (by decide))
  have HT := hid (fun W q N d T h hT s hs => aptext_n s hs (w.heap.size + 1) (w.alloc (vob ⟨4, [], [], is, 0, 0⟩ pp pc' ip ic)) W q N d T h hT)
  have HE : Hid (([4] ++ two is.length) ++ is.flatMap tx = bodyV ⟨4, [], [], is, 0, 0⟩) := by show _ = 4 :: (two is.length ++ is.flatMap tx); simp
  have HL : Hid (∀ k, ((is.take k).flatMap tx).length ≤ 1026 * k) := flat_le HFt.out
  have hlz : (is.length : Int) ≤ 256 := by omega
  clear f1
  unfold Bodies
  go_enter Tryz.func191, Tryz.ntmps191
  go_wp2_with (refine wpList_append_runs rfl _ _ 104 104 rfl _ _ _ _ rfl rfl HR1.out (Hid.out ?_))
  refine hid ?_
  clear c0 c1 c2 c3 c4 c5
  obtain ⟨c0, c1, c2, c3, c4, c5⟩ := val_facts (box_kept H1.out.bel)
  go_wp2_with fail
  refine (HN.out _ _ _ H1.out).mono ?_; rintro e w2 ⟨q2, N2, d2, rfl, hh⟩
  have H2 := hid hh.out.1
  clear hh
  clear c0 c1 c2 c3 c4 c5
  obtain ⟨c0, c1, c2, c3, c4, c5⟩ := val_facts (box_kept H2.out.bel)
  go_wp2_with fail
  go_loopw [0, 8, 56] (fun v0 _ v56 W => ∃ (i : Nat) (q : Option Addr) (n d : Nat), v56 = .int .i64 i ∧ v0 = .slice q n d ∧ i ≤ is.length ∧ Hid (Txt (w.heap.size + 1) (w.alloc (vob ⟨4, [], [], is, 0, 0⟩ pp pc' ip ic)) W (.slice q n d) (([4] ++ two is.length) ++ (is.take i).flatMap tx))) (fun _ _ v56 _ => is.length - (intOf v56).toNat)
  case atStart => exact ⟨0, q2, N2, d2, rfl, rfl, Nat.zero_le _, by rw [List.take_zero, List.flatMap_nil, List.append_nil]; exact H2.out⟩
  case round =>
    obtain ⟨i, q, n, d, rfl, rfl, hi, HO⟩ := hrel
    clear c0 c1 c2 c3 c4 c5
    obtain ⟨c0, c1, c2, c3, c4, c5⟩ := val_facts (box_kept HO.out.bel)
    by_cases hlt : i < is.length
    · have hiz : (i : Int) < (is.length : Int) := by omega
      have HVW := hid (HV.out.below (box_below HO.out.bel))
      obtain ⟨b, o, hip, hc⟩ := HVW.out.items.strs (fun e => by rw [show is = [] from e] at hlt; simp at hlt)
      have x0 := hc i hlt
      have HIn : Hid (is[i].length ≤ 1024) := HFt.out _ (List.getElem_mem hlt)
      have HS : Hid ((([4] ++ two is.length) ++ (is.take (i + 1)).flatMap tx) = (([4] ++ two is.length) ++ (is.take i).flatMap tx) ++ tx is[i]) := by
        rw [Hid, List.take_succ_eq_append_getElem hlt, List.flatMap_append]; simp
      subst hip
      dsimp only at x0
      have hl1 := HL.out i
      have HTi := hid (HT.out wr q n d _ HO.out (by rw [List.length_append]; show 3 + _ ≤ _; omega) is[i] (by have := HIn.out; omega))
      rw [← HS.out] at HTi
      generalize is[i] = t at *
      clear hc HVW
      go_wp2_with fail
      refine HTi.out.mono ?_; rintro e w3 ⟨q4, N4, d4, rfl, hh⟩
      have H4 := hid hh.out.1
      clear hh
      go_wp2_with fail
      exact ⟨⟨i + 1, q4, N4, d4, by go_num, rfl, by omega, H4.out⟩, by simp [intOf]; omega⟩
    · have hge : (is.length : Int) ≤ (i : Int) := by omega
      have HO2 : Hid (Txt (w.heap.size + 1) (w.alloc (vob ⟨4, [], [], is, 0, 0⟩ pp pc' ip ic)) wr (.slice q n d) (bodyV ⟨4, [], [], is, 0, 0⟩)) := by
        rw [← HE.out]; have := HO.out; rwa [List.take_of_length_le (by omega)] at this
      go_wp2_with fail
      go_ret
      exact bodies_of HO2.out
set_option maxHeartbeats 4000000 in
set_option maxRecDepth 100000 in
theorem apv_2 (ps : List (Nm × Nm)) (hf : Fits (ps.map (·.1)) ∧ Fits (ps.map (·.2))) (pp : Option Addr) (pc' : Nat) (ip : Option Addr) (ic : Nat) (w : World) (hV : VI w ⟨2, [], ps, [], 0, 0⟩ pp pc' ip ic) : Bodies ⟨2, [], ps, [], 0, 0⟩ pp pc' ip ic w := by
  have HV := hid hV
  clear hV
  obtain ⟨q1, d1, W1, hrun, h1⟩ := body_start w (vob ⟨2, [], ps, [], 0, 0⟩ pp pc' ip ic) 2 2 rfl
  have HR1 := hid hrun
  have H1 := hid h1
  obtain ⟨c0, c1, c2, c3, c4, c5⟩ := val_facts (val_new w ⟨2, [], ps, [], 0, 0⟩ pp pc' ip ic)
  have wk : IntKind.u8.wrap (2 : Int) = 2 := rfl
  clear hrun h1
  obtain ⟨⟨f1, f2, f3⟩, ⟨g1, _, _⟩⟩ := hf
  simp only [List.length_map] at f2 f3
  have HFt := hid f1
  have HGt := hid g1
  have HN := hid (fun W q d h => apnum2_n ps.length (w.heap.size + 1) (w.alloc (vob ⟨2, [], ps, [], 0, 0⟩ pp pc' ip ic)) W q 1 d [2] h (by decide))
  have HT := hid (fun W q N d T h hT s hs => aptext_n s hs (w.heap.size + 1) (w.alloc (vob ⟨2, [], ps, [], 0, 0⟩ pp pc' ip ic)) W q N d T h hT)
  have HE : Hid (([2] ++ two ps.length) ++ (flat ps).flatMap tx = bodyV ⟨2, [], ps, [], 0, 0⟩) := by show _ = 2 :: (two ps.length ++ (flat ps).flatMap tx); simp
  have HL : Hid (∀ k, k ≤ ps.length → ((flat (ps.take k)).flatMap tx).length ≤ 2052 * k) := flat_le2 HFt.out HGt.out
  have hlz : (ps.length : Int) ≤ 256 := by omega
  clear f1 g1
  unfold Bodies
  go_enter Tryz.func191, Tryz.ntmps191
  go_wp2_with (refine wpList_append_runs rfl _ _ 104 104 rfl _ _ _ _ rfl rfl HR1.out (Hid.out ?_))
  refine hid ?_
  clear c0 c1 c2 c3 c4 c5
  obtain ⟨c0, c1, c2, c3, c4, c5⟩ := val_facts (box_kept H1.out.bel)
  go_wp2_with fail
  refine (HN.out _ _ _ H1.out).mono ?_; rintro e w2 ⟨q2, N2, d2, rfl, hh⟩
  have H2 := hid hh.out.1
  clear hh
  clear c0 c1 c2 c3 c4 c5
  obtain ⟨c0, c1, c2, c3, c4, c5⟩ := val_facts (box_kept H2.out.bel)
  go_wp2_with fail
  go_loopw [0, 6, 33] (fun v0 _ v33 W => ∃ (i : Nat) (q : Option Addr) (n d : Nat), v33 = .int .i64 i ∧ v0 = .slice q n d ∧ i ≤ ps.length ∧ Hid (Txt (w.heap.size + 1) (w.alloc (vob ⟨2, [], ps, [], 0, 0⟩ pp pc' ip ic)) W (.slice q n d) (([2] ++ two ps.length) ++ (flat (ps.take i)).flatMap tx))) (fun _ _ v33 _ => ps.length - (intOf v33).toNat)
  case atStart => exact ⟨0, q2, N2, d2, rfl, rfl, Nat.zero_le _, by rw [show (flat (ps.take 0)).flatMap tx = [] from rfl, List.append_nil]; exact H2.out⟩
  case round =>
    obtain ⟨i, q, n, d, rfl, rfl, hi, HO⟩ := hrel
    clear c0 c1 c2 c3 c4 c5
    obtain ⟨c0, c1, c2, c3, c4, c5⟩ := val_facts (box_kept HO.out.bel)
    by_cases hlt : i < ps.length
    · have hiz : (i : Int) < (ps.length : Int) := by omega
      have HVW := hid (HV.out.below (box_below HO.out.bel))
      obtain ⟨b, o, hip, hc⟩ := HVW.out.pairs.prs (fun e => by rw [show ps = [] from e] at hlt; simp at hlt)
      obtain ⟨x0, x1⟩ := hc i hlt
      have HIn : Hid (ps[i].1.length ≤ 1024) := HFt.out _ (List.mem_map_of_mem (f := (·.1)) (List.getElem_mem hlt))
      have HIm : Hid (ps[i].2.length ≤ 1024) := HGt.out _ (List.mem_map_of_mem (f := (·.2)) (List.getElem_mem hlt))
      have HS : Hid ((([2] ++ two ps.length) ++ (flat (ps.take (i + 1))).flatMap tx) = (([2] ++ two ps.length) ++ (flat (ps.take i)).flatMap tx) ++ tx ps[i].1 ++ tx ps[i].2) := by
        rw [Hid, flat_take_succ hlt]; simp only [List.append_assoc]
      dsimp only at x0 x1
      have hl1 := HL.out i hi
      have HLt : Hid ((tx ps[i].1).length ≤ 1026) := by rw [Hid, tx_len]; have := HIn.out; omega
      have HTi : Hid (∀ W, Txt (w.heap.size + 1) (w.alloc (vob ⟨2, [], ps, [], 0, 0⟩ pp pc' ip ic)) W (.slice q n d) (([2] ++ two ps.length) ++ (flat (ps.take i)).flatMap tx) → PutsN 236 #[.slice q n d, txt ps[i].1] (w.heap.size + 1) (w.alloc (vob ⟨2, [], ps, [], 0, 0⟩ pp pc' ip ic)) W ((([2] ++ two ps.length) ++ (flat (ps.take i)).flatMap tx) ++ tx ps[i].1)) := fun W h => HT.out W q n d (([2] ++ two ps.length) ++ (flat (ps.take i)).flatMap tx) h (by rw [List.length_append]; show 3 + _ ≤ _; omega) ps[i].1 (by have := HIn.out; omega)
      have HUi : Hid (∀ W q N d, Txt (w.heap.size + 1) (w.alloc (vob ⟨2, [], ps, [], 0, 0⟩ pp pc' ip ic)) W (.slice q N d) ((([2] ++ two ps.length) ++ (flat (ps.take i)).flatMap tx) ++ tx ps[i].1) → PutsN 236 #[.slice q N d, txt ps[i].2] (w.heap.size + 1) (w.alloc (vob ⟨2, [], ps, [], 0, 0⟩ pp pc' ip ic)) W ((([2] ++ two ps.length) ++ (flat (ps.take i)).flatMap tx) ++ tx ps[i].1 ++ tx ps[i].2)) := (fun W q N d h => HT.out W q N d ((([2] ++ two ps.length) ++ (flat (ps.take i)).flatMap tx) ++ tx ps[i].1) h (by have := HLt.out; rw [List.length_append, List.length_append]; show 3 + _ + _ ≤ _; omega) ps[i].2 (by have := HIm.out; omega))
      rw [← HS.out] at HUi
      generalize ps[i].1 = t at *
      generalize ps[i].2 = u at *
      clear hc HVW
      have hal := below_alloc wr (.cells #[txt t, txt u] 102)
      have HP := hid (heap_alloc_new wr (.cells #[txt t, txt u] 102))
      have HO1 := hid (HO.out.go hal)
      have HO1d : Hid (Txt (w.heap.size + 1) (w.alloc (vob ⟨2, [], ps, [], 0, 0⟩ pp pc' ip ic)) (wr.alloc (.cells #[txt t, txt u] 102)).drew (.slice q n d) (([2] ++ two ps.length) ++ (flat (ps.take i)).flatMap tx)) := HO1.out.go ((Below.refl _ _).drew)
      have y0 := cell_of_row _ wr.heap.size 0 _ _ _ HP.out
      have y1 := cell_of_row _ wr.heap.size 1 _ _ _ HP.out
      have y0d : (wr.alloc (.cells #[txt t, txt u] 102)).drew.cell? ⟨wr.heap.size, 0, none⟩ = some (txt t) := y0
      have y1d : (wr.alloc (.cells #[txt t, txt u] 102)).drew.cell? ⟨wr.heap.size, 1, none⟩ = some (txt u) := y1
      subst hip
      clear hal
      go_wp2_with fail
      go_region_held3 (fun w' => w'.cell? ⟨wr.heap.size, 0, none⟩ = some (txt t) ∧ w'.cell? ⟨wr.heap.size, 1, none⟩ = some (txt u))
        (first | exact ⟨y0, y1⟩ | exact ⟨y0d, y1d⟩ | exact ⟨z0, z1⟩ | go_keep)
        (first
          | (have _q := HX3.out; clear _q; go_at_call 236; refine (HUi.out _ _ _ _ HX3.out).mono ?_; rintro e w4 ⟨q4, N4, d4, rfl, hh⟩; have H4 := hid hh.out.1; have hp4 := hh.out.2 _ _ _ _ hp3 (by decide); have z0 := cell_of_row _ wr.heap.size 0 _ _ _ hp4; have z1 := cell_of_row _ wr.heap.size 1 _ _ _ hp4; clear hh)
          | (go_at_call 236; refine (HTi.out _ HO1d.out).mono ?_; rintro e w3 ⟨q3, N3, d3, rfl, hh⟩; have HX3 := hid hh.out.1; have hp3 := hh.out.2 _ _ _ _ (show (wr.alloc (.cells #[txt t, txt u] 102)).drew.heap[wr.heap.size]? = _ from HP.out) (by decide); have z0 := cell_of_row _ wr.heap.size 0 _ _ _ hp3; have z1 := cell_of_row _ wr.heap.size 1 _ _ _ hp3; clear hh))
      all_goals go_wp2_with fail
      all_goals exact ⟨⟨i + 1, q4, N4, d4, by go_num, rfl, by omega, H4.out⟩, by simp [intOf]; omega⟩
    · have hge : (ps.length : Int) ≤ (i : Int) := by omega
      have HO2 : Hid (Txt (w.heap.size + 1) (w.alloc (vob ⟨2, [], ps, [], 0, 0⟩ pp pc' ip ic)) wr (.slice q n d) (bodyV ⟨2, [], ps, [], 0, 0⟩)) := by
        rw [← HE.out]; have := HO.out; rwa [List.take_of_length_le (by omega)] at this
      go_wp2_with fail
      go_ret
      exact bodies_of HO2.out
/-- a right value is written -/
theorem apv_any (m : Vl) (hm : RtV m) (pp : Option Addr) (pc' : Nat) (ip : Option Addr) (ic : Nat) (w : World) (hV : VI w m pp pc' ip ic) : Bodies m pp pc' ip ic w := by
  obtain ⟨k, t, p, i, x, y⟩ := m
  obtain ⟨r1, r2, r3, r5, kk, f1, f2, f3, f4, f5⟩ := hm
  dsimp only at *
  rcases (show k = 1 ∨ k = 2 ∨ k = 3 ∨ k = 4 ∨ k = 5 by omega) with rfl | rfl | rfl | rfl | rfl
  · obtain rfl := r2 (by omega); obtain rfl := r3 (by omega) (by omega); obtain ⟨rfl, rfl⟩ := r5 (by omega)
    exact apv_1 t (f1 rfl) pp pc' ip ic w hV
  · obtain rfl := r1 (by omega); obtain rfl := r3 (by omega) (by omega); obtain ⟨rfl, rfl⟩ := r5 (by omega)
    exact apv_2 p ⟨(f2 rfl).1, (f2 rfl).2.2⟩ pp pc' ip ic w hV
  · obtain rfl := r1 (by omega); obtain rfl := r2 (by omega); obtain ⟨rfl, rfl⟩ := r5 (by omega)
    exact apv_3 i (f3 rfl) pp pc' ip ic w hV
  · obtain rfl := r1 (by omega); obtain rfl := r2 (by omega); obtain ⟨rfl, rfl⟩ := r5 (by omega)
    exact apv_4 i (f4 rfl).1 pp pc' ip ic w hV
  · obtain rfl := r1 (by omega); obtain rfl := r2 (by omega); obtain rfl := r3 (by omega) (by omega)
    exact apv_5 x y (f5 rfl) pp pc' ip ic w hV

end Go.Proofs.YtcbncdigejjcpaaGreatDoor
