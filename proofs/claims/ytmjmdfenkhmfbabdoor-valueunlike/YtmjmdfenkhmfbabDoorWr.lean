/- The program's writing: bytes that are put behind. -/
import Derived.Test.YtmjmdfenkhmfbabDoorVBase
namespace Go.Proofs.YtmjmdfenkhmfbabDoor
open Go.RowKit

/-- blocks that are no bytes are as they were -/
def Stl (W W' : World) : Prop := ∀ (k : Nat) (cs : Array Value) (t : TypeId) (f : Nat × Nat), W.heap[k]? = some (.cells cs t f) → t ≠ 5 → W'.heap[k]? = some (.cells cs t f)
theorem Stl.refl (W : World) : Stl W W := fun _ _ _ _ h _ => h
theorem Stl.trans {x y z : World} (h : Stl x y) (k : Stl y z) : Stl x z := fun i cs t f hi ht => k i cs t f (h i cs t f hi ht) ht
theorem Stl.of_below {x y : World} (h : Below x.heap.size x y) : Stl x y := fun i _ _ _ hi _ => (h.block i (Array.getElem?_eq_some_iff.1 hi).1).trans hi
theorem Stl.grown {W W' : World} {B : Nat} {v : Value} {n : Nat} {xs : List Value} (ho : W.ownsRow B 5 1 v n xs) (hg : W.grownBy W' v.ownBlock) : Stl W W' := fun k cs t f h ht => by
  have hk := (Array.getElem?_eq_some_iff.1 h).1
  rw [hg.block k hk ?_]
  · exact h
  · intro e
    rcases ho.2 with ⟨rfl, _⟩ | ⟨g, cap, cur, rfl, _, hc, _⟩
    · cases e
    · injection e with e
      subst e
      rw [hc] at h
      injection h with h
      injection h with _ h _
      exact ht h.symm
theorem Txt.str2 {B : Nat} {w1 W : World} {v : Value} {T : List UInt8} (h : Txt B w1 W v T) (l : List UInt8) (hT : T.length + l.length ≤ 140737488350000) :
    ∃ v' W', (Builtin.append_ #[41, 9] 41 #[v, .string ⟨l.toArray⟩]).run Tryd.prog W = .ok v' W' ∧ Txt B w1 W' v' (T ++ l) ∧ Stl W W' := by
  obtain ⟨i0, hi, hz0, hz1, hz2⟩ := info_parts info5
  have hs := h.size
  have hsz : (⟨l.toArray⟩ : ByteArray).size = l.length := by simp [ByteArray.size]
  obtain ⟨v', w', hrun, ho, hgr, _⟩ := Lib.run_append_own_string (P := Tryd.prog) W B 41 9 41 5 i0 Tryd.underlying41 Tryd.underlying9 hi hz0 hz1 hz2 _ _ _ h.own ⟨l.toArray⟩ (by rw [hsz]; unfold maxLen; omega) (by rw [hsz]; omega) hs
  refine ⟨v', w', hrun, ⟨?_, ?_, ?_⟩, Stl.grown h.own hgr⟩
  · rw [Lib.byteCells_append, List.length_append, ← hsz]
    exact ho
  · exact h.bel.grown hgr hs (fun k hk => (World.ownsRow.lt h.own k hk).1)
  · exact Nat.le_trans hs hgr.size
/-- a byte is put behind -/
theorem Txt.push {B : Nat} {w1 W : World} {v : Value} {T : List UInt8} (h : Txt B w1 W v T) (c : UInt8) (x : Int) (hx : x = (c.toNat : Int)) (hT : T.length ≤ 140737488340000) :
    ∃ v' W', (Builtin.append_ #[41, 41] 41 #[v, .slice (some ⟨W.heap.size, 0, none⟩) 1 1]).run Tryd.prog (W.alloc (.cells #[.int .u8 x] 5)) = .ok v' W' ∧ Txt B w1 W' v' (T ++ [c]) ∧ Stl W W' := by
  subst hx
  obtain ⟨i0, hi, hz0, hz1, hz2⟩ := info_parts info5
  have hb := below_alloc W (.cells #[.int .u8 (c.toNat : Int)] 5)
  have ho := owns_below h.own hb
  have hs := h.size
  obtain ⟨v', w', hrun, ho', hgr, _⟩ := run_append_own (P := Tryd.prog) (W.alloc (.cells #[.int .u8 (c.toNat : Int)] 5)) B 41 41 5 i0 (.int .u8 0) 1 1 Tryd.underlying41 hi hz0 hz1 hz2 rfl (by decide) _ _ _ ho ⟨W.heap.size, 0, none⟩ 1 1 [.int .u8 (c.toNat : Int)] rfl
    (fun j u' hj => by
      rw [Go.WideShapes.add_plain, cell_of_row _ _ _ _ _ _ (heap_alloc_new W _)]
      simpa using hj)
    (fun u' hu' => by rw [List.mem_singleton.1 hu']; rfl) (by unfold maxLen; omega) (by omega) (Nat.le_trans hs hb.size)
  refine ⟨v', w', hrun, ⟨?_, ?_, ?_⟩, (Stl.of_below hb).trans (Stl.grown ho hgr)⟩
  · rw [Lib.byteCells_append, List.length_append]
    exact ho'
  · exact (h.bel.trans (hb.mono hs)).grown hgr (Nat.le_trans hs hb.size) (fun k hk => (World.ownsRow.lt ho k hk).1)
  · exact Nat.le_trans (Nat.le_trans hs hb.size) hgr.size
theorem Txt.nil (w : World) : Txt w.heap.size w w (.slice none 0 0) [] := ⟨World.ownsRow_nil _ _ _ _, Below.refl _ _, Nat.le_refl _⟩
/-- what a call that puts bytes behind tells -/
def Puts (f : Nat) (args : Array Value) (B : Nat) (w1 W : World) (T : List UInt8) : Prop :=
  Calls Tryd.prog f args W fun e w' => ∃ q d, e = .returned (.slice q T.length d) ∧ Hid (Txt B w1 w' (.slice q T.length d) T ∧ Stl W w')
set_option maxHeartbeats 1000000 in
set_option maxRecDepth 100000 in
theorem apnum2_core (n : Int) (c1 c0 : UInt8) (h1 : IntKind.u8.wrap (n / 256) = (c1.toNat : Int)) (h0 : IntKind.u8.wrap n = (c0.toNat : Int)) (B : Nat) (w1 W : World) (q : Option Addr) (d : Nat) (T : List UInt8) (h : Txt B w1 W (.slice q T.length d) T) (hT : T.length ≤ 10000000) :
    Puts 15 #[.slice q T.length d, .int .i64 2, .int .i64 n] B w1 W (T ++ [c1] ++ [c0]) := by
  have H := hid h
  have HS := hid (Stl.refl W)
  have HT := hid hT
  obtain ⟨N, hN⟩ : ∃ N, N = T.length := ⟨_, rfl⟩
  rw [← hN] at H ⊢
  unfold Puts
  clear h hT hN
  go_enter Tryd.func15, Tryd.ntmps15
  go_wp2_with fail
  go_loopw [0, 7] (fun v0 v7 X => ∃ (q : Option Addr) (N d : Nat), v0 = .slice q N d ∧ Hid (Stl W X) ∧ ((v7 = .int .i64 1 ∧ Hid (Txt B w1 X (.slice q N d) (T))) ∨ (v7 = .int .i64 0 ∧ Hid (Txt B w1 X (.slice q N d) (T ++ [c1]))) ∨ (v7 = .int .i64 (-1) ∧ Hid (Txt B w1 X (.slice q N d) (T ++ [c1] ++ [c0]))))) (fun _ v7 _ => (intOf v7 + 1).toNat)
  case atStart => exact ⟨q, N, d, rfl, HS.out, .inl ⟨rfl, H.out⟩⟩
  case round =>
    obtain ⟨q, N, d, rfl, HS1, ⟨rfl, HX⟩ | ⟨rfl, HX⟩ | ⟨rfl, HX⟩⟩ := hrel
    · obtain ⟨v2, W2, hrun, h2, hs2⟩ := HX.out.push c1 _ rfl (by have := HT.out; simp; omega)
      obtain ⟨q2, d2, rfl⟩ := h2.shape
      obtain ⟨N2, hN2⟩ : ∃ N2, N2 = (T ++ [c1]).length := ⟨_, rfl⟩
      rw [← hN2] at h2 hrun
      have HR := hid hrun
      have H2 := hid h2
      have HS2 := hid (HS1.out.trans hs2)
      clear hrun h2 hs2 hN2
      go_wp2_with (refine wpList_append_runs rfl _ _ 41 41 rfl _ _ _ _ rfl rfl HR.out (Hid.out ?_))
      refine hid ?_
      go_wp2_with fail
      exact ⟨⟨q2, N2, d2, rfl, HS2.out, .inr (.inl ⟨rfl, H2.out⟩)⟩, by simp [intOf]⟩
    · obtain ⟨v2, W2, hrun, h2, hs2⟩ := HX.out.push c0 _ rfl (by have := HT.out; simp; omega)
      obtain ⟨q2, d2, rfl⟩ := h2.shape
      obtain ⟨N2, hN2⟩ : ∃ N2, N2 = (T ++ [c1] ++ [c0]).length := ⟨_, rfl⟩
      rw [← hN2] at h2 hrun
      have HR := hid hrun
      have H2 := hid h2
      have HS2 := hid (HS1.out.trans hs2)
      clear hrun h2 hs2 hN2
      go_wp2_with (refine wpList_append_runs rfl _ _ 41 41 rfl _ _ _ _ rfl rfl HR.out (Hid.out ?_))
      refine hid ?_
      go_wp2_with fail
      exact ⟨⟨q2, N2, d2, rfl, HS2.out, .inr (.inr (⟨rfl, H2.out⟩))⟩, by simp [intOf]⟩
    · have hl := HX.out.shape
      obtain ⟨q2, d2, hl⟩ := hl
      injection hl with e1 e2 e3
      subst e1 e3
      have HN := hid e2
      clear e2
      go_wp2_with fail
      go_ret
      have e := HN.out
      subst e
      exact ⟨q, d, rfl, HX.out, HS1.out⟩
set_option maxHeartbeats 1000000 in
set_option maxRecDepth 100000 in
theorem apnum4_core (n : Int) (c3 c2 c1 c0 : UInt8) (h3 : IntKind.u8.wrap (n / 16777216) = (c3.toNat : Int)) (h2 : IntKind.u8.wrap (n / 65536) = (c2.toNat : Int)) (h1 : IntKind.u8.wrap (n / 256) = (c1.toNat : Int)) (h0 : IntKind.u8.wrap n = (c0.toNat : Int)) (B : Nat) (w1 W : World) (q : Option Addr) (d : Nat) (T : List UInt8) (h : Txt B w1 W (.slice q T.length d) T) (hT : T.length ≤ 10000000) :
    Puts 15 #[.slice q T.length d, .int .i64 4, .int .i64 n] B w1 W (T ++ [c3] ++ [c2] ++ [c1] ++ [c0]) := by
  have H := hid h
  have HS := hid (Stl.refl W)
  have HT := hid hT
  obtain ⟨N, hN⟩ : ∃ N, N = T.length := ⟨_, rfl⟩
  rw [← hN] at H ⊢
  unfold Puts
  clear h hT hN
  go_enter Tryd.func15, Tryd.ntmps15
  go_wp2_with fail
  go_loopw [0, 7] (fun v0 v7 X => ∃ (q : Option Addr) (N d : Nat), v0 = .slice q N d ∧ Hid (Stl W X) ∧ ((v7 = .int .i64 3 ∧ Hid (Txt B w1 X (.slice q N d) (T))) ∨ (v7 = .int .i64 2 ∧ Hid (Txt B w1 X (.slice q N d) (T ++ [c3]))) ∨ (v7 = .int .i64 1 ∧ Hid (Txt B w1 X (.slice q N d) (T ++ [c3] ++ [c2]))) ∨ (v7 = .int .i64 0 ∧ Hid (Txt B w1 X (.slice q N d) (T ++ [c3] ++ [c2] ++ [c1]))) ∨ (v7 = .int .i64 (-1) ∧ Hid (Txt B w1 X (.slice q N d) (T ++ [c3] ++ [c2] ++ [c1] ++ [c0]))))) (fun _ v7 _ => (intOf v7 + 1).toNat)
  case atStart => exact ⟨q, N, d, rfl, HS.out, .inl ⟨rfl, H.out⟩⟩
  case round =>
    obtain ⟨q, N, d, rfl, HS1, ⟨rfl, HX⟩ | ⟨rfl, HX⟩ | ⟨rfl, HX⟩ | ⟨rfl, HX⟩ | ⟨rfl, HX⟩⟩ := hrel
    · obtain ⟨v2, W2, hrun, h2, hs2⟩ := HX.out.push c3 _ rfl (by have := HT.out; simp; omega)
      obtain ⟨q2, d2, rfl⟩ := h2.shape
      obtain ⟨N2, hN2⟩ : ∃ N2, N2 = (T ++ [c3]).length := ⟨_, rfl⟩
      rw [← hN2] at h2 hrun
      have HR := hid hrun
      have H2 := hid h2
      have HS2 := hid (HS1.out.trans hs2)
      clear hrun h2 hs2 hN2
      go_wp2_with (refine wpList_append_runs rfl _ _ 41 41 rfl _ _ _ _ rfl rfl HR.out (Hid.out ?_))
      refine hid ?_
      go_wp2_with fail
      exact ⟨⟨q2, N2, d2, rfl, HS2.out, .inr (.inl ⟨rfl, H2.out⟩)⟩, by simp [intOf]⟩
    · obtain ⟨v2, W2, hrun, h2, hs2⟩ := HX.out.push c2 _ rfl (by have := HT.out; simp; omega)
      obtain ⟨q2, d2, rfl⟩ := h2.shape
      obtain ⟨N2, hN2⟩ : ∃ N2, N2 = (T ++ [c3] ++ [c2]).length := ⟨_, rfl⟩
      rw [← hN2] at h2 hrun
      have HR := hid hrun
      have H2 := hid h2
      have HS2 := hid (HS1.out.trans hs2)
      clear hrun h2 hs2 hN2
      go_wp2_with (refine wpList_append_runs rfl _ _ 41 41 rfl _ _ _ _ rfl rfl HR.out (Hid.out ?_))
      refine hid ?_
      go_wp2_with fail
      exact ⟨⟨q2, N2, d2, rfl, HS2.out, .inr (.inr (.inl ⟨rfl, H2.out⟩))⟩, by simp [intOf]⟩
    · obtain ⟨v2, W2, hrun, h2, hs2⟩ := HX.out.push c1 _ rfl (by have := HT.out; simp; omega)
      obtain ⟨q2, d2, rfl⟩ := h2.shape
      obtain ⟨N2, hN2⟩ : ∃ N2, N2 = (T ++ [c3] ++ [c2] ++ [c1]).length := ⟨_, rfl⟩
      rw [← hN2] at h2 hrun
      have HR := hid hrun
      have H2 := hid h2
      have HS2 := hid (HS1.out.trans hs2)
      clear hrun h2 hs2 hN2
      go_wp2_with (refine wpList_append_runs rfl _ _ 41 41 rfl _ _ _ _ rfl rfl HR.out (Hid.out ?_))
      refine hid ?_
      go_wp2_with fail
      exact ⟨⟨q2, N2, d2, rfl, HS2.out, .inr (.inr (.inr (.inl ⟨rfl, H2.out⟩)))⟩, by simp [intOf]⟩
    · obtain ⟨v2, W2, hrun, h2, hs2⟩ := HX.out.push c0 _ rfl (by have := HT.out; simp; omega)
      obtain ⟨q2, d2, rfl⟩ := h2.shape
      obtain ⟨N2, hN2⟩ : ∃ N2, N2 = (T ++ [c3] ++ [c2] ++ [c1] ++ [c0]).length := ⟨_, rfl⟩
      rw [← hN2] at h2 hrun
      have HR := hid hrun
      have H2 := hid h2
      have HS2 := hid (HS1.out.trans hs2)
      clear hrun h2 hs2 hN2
      go_wp2_with (refine wpList_append_runs rfl _ _ 41 41 rfl _ _ _ _ rfl rfl HR.out (Hid.out ?_))
      refine hid ?_
      go_wp2_with fail
      exact ⟨⟨q2, N2, d2, rfl, HS2.out, .inr (.inr (.inr (.inr (⟨rfl, H2.out⟩))))⟩, by simp [intOf]⟩
    · have hl := HX.out.shape
      obtain ⟨q2, d2, hl⟩ := hl
      injection hl with e1 e2 e3
      subst e1 e3
      have HN := hid e2
      clear e2
      go_wp2_with fail
      go_ret
      have e := HN.out
      subst e
      exact ⟨q, d, rfl, HX.out, HS1.out⟩
/-- a number in two bytes -/
theorem apnum2_any (n : Nat) (B : Nat) (w1 W : World) (q : Option Addr) (d : Nat) (T : List UInt8) (h : Txt B w1 W (.slice q T.length d) T) (hT : T.length ≤ 10000000) :
    Puts 15 #[.slice q T.length d, .int .i64 2, .int .i64 n] B w1 W (T ++ two n) := by
  have := apnum2_core (n : Int) (UInt8.ofNat (n / 256)) (UInt8.ofNat (n % 256)) (by rw [IntKind.wrap_u8, UInt8.toNat_ofNat']; omega) (by rw [IntKind.wrap_u8, UInt8.toNat_ofNat']; omega) B w1 W q d T h hT
  rw [List.append_assoc] at this
  exact this
/-- a point's part -/
theorem apnum4_any (n : Int) (hn0 : -1048576 ≤ n) (hn1 : n ≤ 1048576) (B : Nat) (w1 W : World) (q : Option Addr) (d : Nat) (T : List UInt8) (h : Txt B w1 W (.slice q T.length d) T) (hT : T.length ≤ 10000000) :
    Puts 15 #[.slice q T.length d, .int .i64 4, .int .i64 n] B w1 W (T ++ part n) := by
  obtain ⟨z, hz⟩ : ∃ z : Nat, z = (n % 4294967296).toNat := ⟨_, rfl⟩
  have := apnum4_core n (UInt8.ofNat (z / 65536 / 256)) (UInt8.ofNat (z / 65536 % 256)) (UInt8.ofNat (z % 65536 / 256)) (UInt8.ofNat (z % 65536 % 256)) (by rw [IntKind.wrap_u8, UInt8.toNat_ofNat']; omega) (by rw [IntKind.wrap_u8, UInt8.toNat_ofNat']; omega) (by rw [IntKind.wrap_u8, UInt8.toNat_ofNat']; omega) (by rw [IntKind.wrap_u8, UInt8.toNat_ofNat']; omega) B w1 W q d T h hT
  rw [List.append_assoc, List.append_assoc, List.append_assoc] at this
  unfold part
  rw [← hz]
  exact this
set_option maxHeartbeats 1000000 in
set_option maxRecDepth 100000 in
/-- a text -/
theorem aptext_any (s : Nm) (hs : s.length < 65536) (B : Nat) (w1 W : World) (q : Option Addr) (d : Nat) (T : List UInt8) (h : Txt B w1 W (.slice q T.length d) T) (hT : T.length ≤ 9000000) :
    Puts 31 #[.slice q T.length d, txt s] B w1 W (T ++ tx s) := by
  have H1 := hid (apnum2_any s.length B w1 W q d T h (by omega))
  have HE : Hid (T ++ tx s = T ++ two s.length ++ s) := by show T ++ (two s.length ++ s) = _; rw [List.append_assoc]
  have HL : Hid ((T ++ two s.length).length ≤ 9000002) := by show _ ≤ _; rw [List.length_append, two_len]; omega
  have hsz : (s.length : Int) < 65536 := by omega
  have HSl := hid hs
  unfold Puts at H1 ⊢
  generalize T ++ tx s = R at *
  generalize T ++ two s.length = T2 at *
  obtain ⟨N, hN⟩ : ∃ N, N = T.length := ⟨_, rfl⟩
  rw [← hN] at H1 ⊢
  clear h hT hs hN
  go_enter Tryd.func31, Tryd.ntmps31
  go_wp2_with fail
  refine H1.out.mono ?_; rintro e w2 ⟨q2, d2, rfl, hh⟩
  obtain ⟨v3, W3, hrun, h3, hs3⟩ := hh.out.1.str2 s (by have := HL.out; have := HSl.out; omega)
  rw [← HE.out] at h3
  obtain ⟨q3, d3, rfl⟩ := h3.shape
  have HR := hid hrun
  have H3 := hid h3
  have HS3 := hid (hh.out.2.trans hs3)
  clear hrun h3 hs3 hh
  go_wp2_with (refine wpList_append_runs rfl _ _ 41 9 rfl _ _ _ _ rfl rfl HR.out (Hid.out ?_))
  refine hid ?_
  go_wp2_with fail
  go_ret
  exact ⟨q3, d3, rfl, H3.out, HS3.out⟩
/-- the same, the row's length being a name -/
def PutsN (f : Nat) (args : Array Value) (B : Nat) (w1 W : World) (T : List UInt8) : Prop :=
  Calls Tryd.prog f args W fun e w' => ∃ q N d, e = .returned (.slice q N d) ∧ Hid (Txt B w1 w' (.slice q N d) T ∧ Stl W w')
theorem Puts.n {f : Nat} {args : Array Value} {B : Nat} {w1 W : World} {T : List UInt8} (h : Puts f args B w1 W T) : PutsN f args B w1 W T := by
  refine h.mono ?_
  rintro e w' ⟨q, d, rfl, hh⟩
  exact ⟨q, _, d, rfl, hh⟩
theorem Txt.num {B : Nat} {w1 W : World} {q : Option Addr} {N d : Nat} {T : List UInt8} (h : Txt B w1 W (.slice q N d) T) : N = T.length := by
  obtain ⟨q', d', hl⟩ := h.shape
  injection hl
theorem apnum2_n (n : Nat) (B : Nat) (w1 W : World) (q : Option Addr) (N d : Nat) (T : List UInt8) (h : Txt B w1 W (.slice q N d) T) (hT : T.length ≤ 10000000) : PutsN 15 #[.slice q N d, .int .i64 2, .int .i64 n] B w1 W (T ++ two n) := by
  obtain rfl := h.num
  exact (apnum2_any n B w1 W q d T h hT).n
theorem apnum4_n (n : Int) (hn0 : -1048576 ≤ n) (hn1 : n ≤ 1048576) (B : Nat) (w1 W : World) (q : Option Addr) (N d : Nat) (T : List UInt8) (h : Txt B w1 W (.slice q N d) T) (hT : T.length ≤ 10000000) : PutsN 15 #[.slice q N d, .int .i64 4, .int .i64 n] B w1 W (T ++ part n) := by
  obtain rfl := h.num
  exact (apnum4_any n hn0 hn1 B w1 W q d T h hT).n
theorem aptext_n (s : Nm) (hs : s.length < 65536) (B : Nat) (w1 W : World) (q : Option Addr) (N d : Nat) (T : List UInt8) (h : Txt B w1 W (.slice q N d) T) (hT : T.length ≤ 9000000) : PutsN 31 #[.slice q N d, txt s] B w1 W (T ++ tx s) := by
  obtain rfl := h.num
  exact (aptext_any s hs B w1 W q d T h hT).n

end Go.Proofs.YtmjmdfenkhmfbabDoor
