/- Replies written by the document: ref encode, ref Encode. -/
import Derived.Test.YtngkbacnajgmcaaDoorAppend
import Derived.Test.YtngkbacnajgmcaaDoorBulk
import Derived.Test.YtngkbacnajgmcaaDoorRefBare
import Derived.Test.YtngkbacnajgmcaaDoorRefDigits
import Derived.Deep.QuietTactic
import Derived.Lib.QuietBelow
namespace Go.Proofs.YtngkbacnajgmcaaDoor
open Go.RowKit

/-- two texts, one behind the other, in words that the walk does not look into -/
theorem add_run (a b Z : ByteArray) (hc : a ++ b = Z) (h : a.size + b.size ≤ 9223372036854775807) (W : World) : (Op.stringOp .add a b).run Tryd.prog W = .ok (.string Z) W := by
  rw [← hc]; exact run_string_add_sum W a b h
theorem sz (l : List UInt8) : (⟨l.toArray⟩ : ByteArray).size = l.length := by simp [ByteArray.size]
theorem cats (a b : List UInt8) : ∃ Z : ByteArray, (⟨a.toArray⟩ ++ ⟨b.toArray⟩ : ByteArray) = Z ∧ Z = ⟨(a ++ b).toArray⟩ ∧ Z.size = a.length + b.length := ⟨_, rfl, app_ba a b, by rw [app_ba]; simp [ByteArray.size]⟩
/-- what ref encode tells within so many lists -/
def EncOut (k : Nat) (r : Rep) (s : ByteArray) (b : Bool) : Prop := (∀ x, enc k r = some x → b = true ∧ s = ⟨x.toArray⟩) ∧ (enc k r = none → b = false)
theorem EncOut.none {k : Nat} {r : Rep} {s : ByteArray} (h : enc k r = none) : EncOut k r s false := ⟨fun x hx => absurd (h.symm.trans hx) (by simp), fun _ => rfl⟩
theorem EncOut.some {k : Nat} {r : Rep} {s : ByteArray} {x : List UInt8} (h : enc k r = some x) (hs : s = ⟨x.toArray⟩) : EncOut k r s true := ⟨fun y hy => ⟨rfl, by rw [h] at hy; injection hy with hy; rw [← hy, hs]⟩, fun hx => absurd (h.symm.trans hx) (by simp)⟩
def REncAt (k : Nat) : Prop := ∀ (z : Int) (v : Value) (r : Rep) (d : Nat) (w : World), z = 4 - (k : Int) → k ≤ 4 → Rp All w d v r → cost k r ≤ 140737488300000 →
  Calls Tryd.prog 19 #[v, .int .i64 z] w fun e w' => ∃ (s : ByteArray) (b : Bool), e = .returned (.tuple #[.string s, .bool b]) ∧ Hid (EncOut k r s b ∧ Below w.heap.size w w')
theorem bare_right {k : Nat} {kd n : Int} {t : List UInt8} {l : List Rep} (h : bareB (.mk kd n t l) = false) : right k (.mk kd n t l) = false := by
  cases hr : right k (.mk kd n t l)
  · rfl
  · rcases right_cases hr with ⟨rfl, hp, rfl, rfl⟩ | ⟨rfl, hp, rfl, rfl⟩ | ⟨rfl, rfl, rfl⟩ | ⟨rfl, ht, rfl, rfl⟩ | ⟨rfl, rfl, rfl, rfl⟩ | ⟨rfl, h1024, h0k, rfl, rfl⟩
    all_goals rw [bare_mk] at h; simp at h
/-- what is known at a reply's box -/
structure Boxed (w : World) (v : Value) (z : Int) (kd n : Int) (t : List UInt8) (p : Option Addr) (len c : Nat) : Prop where
  shape : v = .agg #[.int .i64 kd, .int .i64 n, .string ⟨t.toArray⟩, .slice p len c]
  bare : Hid (∀ o, Calls Tryd.prog 28 #[v] (w.alloc o) fun e w' => e = .returned (.bool true) ∧ Hid (Below (w.alloc o).heap.size (w.alloc o) w'))
set_option maxHeartbeats 2000000 in
set_option maxRecDepth 100000 in
/-- a line: the kinds 1 and 2 -/
theorem enc_line (k : Nat) (kd : Int) (c8 : UInt8) (hkd : kd = 1 ∧ c8 = 43 ∨ kd = 2 ∧ c8 = 45) (v : Value) (z : Int) (t : List UInt8) (p : Option Addr) (c : Nat) (w : World) (H : Boxed w v z kd 0 t p 0 c) (ht : t.length ≤ 140737488300000) :
    Calls Tryd.prog 19 #[v, .int .i64 z] w fun e w' => ∃ (s : ByteArray) (b : Bool), e = .returned (.tuple #[.string s, .bool b]) ∧ Hid (EncOut k (.mk kd 0 t []) s b ∧ Below w.heap.size w w') := by
  have HBa := H.bare
  obtain rfl := H.shape
  have HZ := hid fun (o : Obj) => heap_alloc_new w o
  obtain ⟨Z1, hc1, hz1, hs1⟩ := cats [c8] t
  obtain ⟨Z2, hc2, hz2, hs2⟩ := cats ([c8] ++ t) [13, 10]
  rw [← hz1] at hc2
  have HF : Hid (EncOut k (.mk kd 0 t []) Z2 (decide (Pl t))) := by
    have hr : right k (.mk kd 0 t []) = decide (Pl t) := by
      rw [right_mk, if_pos (by rcases hkd with ⟨h, _⟩ | ⟨h, _⟩; exact .inl h; exact .inr h)]
      simp
    by_cases hp : Pl t
    · rw [decide_eq_true hp] at hr ⊢
      refine EncOut.some (enc_flat hr (by rcases hkd with ⟨rfl, _⟩ | ⟨rfl, _⟩ <;> simp [Rep.kind])) ?_
      rw [hz2]
      rcases hkd with ⟨rfl, rfl⟩ | ⟨rfl, rfl⟩ <;> rfl
    · rw [decide_eq_false hp] at hr ⊢
      exact EncOut.none (enc_none hr)
  have CP := hid fun (W : World) dd os => Calls.regrown_of ((plain_any t (Sort.grow (redrawn W dd) os) (by omega)).mono fun _ _ h => ⟨h.1, h.2 ▸ Below.refl _ _⟩)
  generalize decide (Pl t) = V at HF CP
  have hb1 : Z1.size ≤ 140737488310000 := by rw [hs1]; simp; omega
  clear H hz1 hz2 hs1 hs2
  rcases hkd with ⟨rfl, rfl⟩ | ⟨rfl, rfl⟩
  all_goals
    have hc1' : (⟨#[_]⟩ ++ ⟨t.toArray⟩ : ByteArray) = Z1 := hc1
    have hc2' : (Z1 ++ ⟨#[13, 10]⟩ : ByteArray) = Z2 := hc2
    have ha1 := add_run _ _ _ hc1' (by have h2 := sz t; show 1 + (⟨t.toArray⟩ : ByteArray).size ≤ _; omega)
    have ha2 := add_run _ _ _ hc2' (by show Z1.size + 2 ≤ _; omega)
    clear hc1 hc2
    go_enter Tryd.func19, Tryd.ntmps19
    go_wp2_with fail
    refine (HBa.out _).mono ?_; rintro e w1 ⟨rfl, hb⟩
    have HB1 := hid ((below_alloc w _).trans (hb.out.mono (by simp)))
    have HR1 := hid ((hb.out.block _ (by simp)).trans (HZ.out _))
    clear hb HBa
    obtain ⟨⟨e0, e1, e2, e3⟩, -⟩ := row_facts HR1.out
    have g2 := cell_regrown e2
    go_wp2_with fail
    refine wp_region_quiet_below (by kernel_rfl) (by kernel_rfl) ?_
    repeat (quiet_step ((go_at_call 29; exact CP.out _ _ _)))
    refine wpQuiet_nil ?_
    intro _ hw'
    obtain ⟨⟨dq, osq⟩, hw''⟩ := hw'
    subst hw''
    go_wp2_with fail
    go_ret2
    exact ⟨_, _, rfl, HF.out, HB1.out.trans ((below_regrown w1 dq osq).mono HB1.out.size)⟩
set_option maxHeartbeats 2000000 in
set_option maxRecDepth 100000 in
/-- a number: the kind 3 -/
theorem enc_whole (k : Nat) (v : Value) (z n : Int) (p : Option Addr) (c : Nat) (w : World) (H : Boxed w v z 3 n [] p 0 c) (h0 : -9223372036854775808 ≤ n) (h1 : n ≤ 9223372036854775807) :
    Calls Tryd.prog 19 #[v, .int .i64 z] w fun e w' => ∃ (s : ByteArray) (b : Bool), e = .returned (.tuple #[.string s, .bool b]) ∧ Hid (EncOut k (.mk 3 n [] []) s b ∧ Below w.heap.size w w') := by
  have HBa := H.bare
  obtain rfl := H.shape
  have HZ := hid fun (o : Obj) => heap_alloc_new w o
  obtain ⟨Z1, hc1, hz1, hs1⟩ := cats [58] (Lib.itoa n)
  obtain ⟨Z2, hc2, hz2, hs2⟩ := cats ([58] ++ Lib.itoa n) [13, 10]
  rw [← hz1] at hc2
  have HF : Hid (EncOut k (.mk 3 n [] []) Z2 true) := by
    have hr : right k (.mk 3 n [] []) = true := by rw [right_mk]; simp
    refine EncOut.some (enc_flat hr (by simp [Rep.kind])) ?_
    rw [hz2]
    rfl
  have hil := itoa_len n h0 h1
  have HDg := hid fun (W : World) => digits_any n W h0 h1
  have hb1 : Z1.size ≤ 100 := by rw [hs1]; simp; omega
  generalize Lib.itoa n = T at hc1 HDg hil
  have hc1' : (⟨#[58]⟩ ++ ⟨T.toArray⟩ : ByteArray) = Z1 := hc1
  have hc2' : (Z1 ++ ⟨#[13, 10]⟩ : ByteArray) = Z2 := hc2
  clear H hz1 hz2 hs1 hs2 hc1 hc2
  go_enter Tryd.func19, Tryd.ntmps19
  go_wp2_with fail
  refine (HBa.out _).mono ?_; rintro e w1 ⟨rfl, hb⟩
  have HB1 := hid ((below_alloc w _).trans (hb.out.mono (by simp)))
  have HR1 := hid ((hb.out.block _ (by simp)).trans (HZ.out _))
  clear hb HBa
  obtain ⟨⟨e0, e1, e2, e3⟩, -⟩ := row_facts HR1.out
  go_wp2_with fail
  refine (HDg.out _).mono ?_; rintro e w2 ⟨rfl, hb⟩
  have HB2 := hid (HB1.out.trans (hb.mono HB1.out.size))
  clear hb HDg
  go_wp2_with fail
  go_ret2
  exact ⟨_, _, rfl, HF.out, HB2.out⟩
set_option maxHeartbeats 2000000 in
set_option maxRecDepth 100000 in
/-- a Bulk: the kind 4 -/
theorem enc_bulk (k : Nat) (v : Value) (z : Int) (t : List UInt8) (p : Option Addr) (c : Nat) (w : World) (H : Boxed w v z 4 0 t p 0 c) (ht : t.length ≤ 140737488300000) :
    Calls Tryd.prog 19 #[v, .int .i64 z] w fun e w' => ∃ (s : ByteArray) (b : Bool), e = .returned (.tuple #[.string s, .bool b]) ∧ Hid (EncOut k (.mk 4 0 t []) s b ∧ Below w.heap.size w w') := by
  have HBa := H.bare
  obtain rfl := H.shape
  have HZ := hid fun (o : Obj) => heap_alloc_new w o
  obtain ⟨Z1, hc1, hz1, hs1⟩ := cats [36] (Lib.itoa (t.length : Nat))
  obtain ⟨Z2, hc2, hz2, hs2⟩ := cats ([36] ++ Lib.itoa (t.length : Nat)) [13, 10]
  obtain ⟨Z3, hc3, hz3, hs3⟩ := cats ([36] ++ Lib.itoa (t.length : Nat) ++ [13, 10]) t
  obtain ⟨Z4, hc4, hz4, hs4⟩ := cats ([36] ++ Lib.itoa (t.length : Nat) ++ [13, 10] ++ t) [13, 10]
  rw [← hz1] at hc2
  rw [← hz2] at hc3
  rw [← hz3] at hc4
  have HF : Hid (EncOut k (.mk 4 0 t []) Z4 (decide ((t.length : Int) ≤ 65536))) := by
    by_cases h6 : t.length ≤ 65536
    · rw [decide_eq_true (show (t.length : Int) ≤ 65536 by omega)]
      have hr : right k (.mk 4 0 t []) = true := by rw [right_mk]; simp [h6]
      refine EncOut.some (enc_flat hr (by simp [Rep.kind])) ?_
      rw [hz4]
      rfl
    · rw [decide_eq_false (show ¬ (t.length : Int) ≤ 65536 by omega)]
      have hr : right k (.mk 4 0 t []) = false := by rw [right_mk]; simp; omega
      exact EncOut.none (enc_none hr)
  have hil := itoa_len (t.length : Nat) (by omega) (by omega)
  have CD := hid fun (W : World) dd os => Calls.regrown_of (digits_any (t.length : Nat) (Sort.grow (redrawn W dd) os) (by omega) (by omega))
  have hb1 : Z1.size ≤ 100 := by rw [hs1]; simp; omega
  have hb2 : Z2.size ≤ 200 := by rw [hs2]; simp; omega
  have hb3 : Z3.size ≤ 140737488310000 := by rw [hs3]; simp; omega
  generalize Lib.itoa (t.length : Nat) = T at hc1 CD hil
  have hc1' : (⟨#[36]⟩ ++ ⟨T.toArray⟩ : ByteArray) = Z1 := hc1
  have hc2' : (Z1 ++ ⟨#[13, 10]⟩ : ByteArray) = Z2 := hc2
  have hc4' : (Z3 ++ ⟨#[13, 10]⟩ : ByteArray) = Z4 := hc4
  have ha1 := add_run _ _ _ hc1' (by have h2 := sz T; show 1 + (⟨T.toArray⟩ : ByteArray).size ≤ _; omega)
  have ha2 := add_run _ _ _ hc2' (by show Z1.size + 2 ≤ _; omega)
  have ha3 := add_run _ _ _ hc3 (by have h2 := sz t; omega)
  have ha4 := add_run _ _ _ hc4' (by show Z3.size + 2 ≤ _; omega)
  clear H hz1 hz2 hs1 hs2 hc1 hc2 hc4 hz3 hz4 hs3 hs4
  go_enter Tryd.func19, Tryd.ntmps19
  go_wp2_with fail
  refine (HBa.out _).mono ?_; rintro e w1 ⟨rfl, hb⟩
  have HB1 := hid ((below_alloc w _).trans (hb.out.mono (by simp)))
  have HR1 := hid ((hb.out.block _ (by simp)).trans (HZ.out _))
  clear hb HBa
  obtain ⟨⟨e0, e1, e2, e3⟩, -⟩ := row_facts HR1.out
  have g2 := cell_regrown e2
  go_wp2_with fail
  refine wp_region_quiet_below (by kernel_rfl) (by kernel_rfl) ?_
  repeat (quiet_step ((go_at_call 30; exact CD.out _ _ _)))
  refine wpQuiet_nil ?_
  intro _ hw'
  obtain ⟨⟨dq, osq⟩, hw''⟩ := hw'
  subst hw''
  go_wp2_with fail
  go_ret2
  exact ⟨_, _, rfl, HF.out, HB1.out.trans ((below_regrown w1 dq osq).mono HB1.out.size)⟩
set_option maxHeartbeats 2000000 in
set_option maxRecDepth 100000 in
/-- a Nil: the kind 5 -/
theorem enc_nil (k : Nat) (v : Value) (z : Int) (p : Option Addr) (c : Nat) (w : World) (H : Boxed w v z 5 0 [] p 0 c) :
    Calls Tryd.prog 19 #[v, .int .i64 z] w fun e w' => ∃ (s : ByteArray) (b : Bool), e = .returned (.tuple #[.string s, .bool b]) ∧ Hid (EncOut k (.mk 5 0 [] []) s b ∧ Below w.heap.size w w') := by
  have HBa := H.bare
  obtain rfl := H.shape
  have HZ := hid fun (o : Obj) => heap_alloc_new w o
  have HF : Hid (EncOut k (.mk 5 0 [] []) ⟨#[36, 45, 49, 13, 10]⟩ true) := by
    have hr : right k (.mk 5 0 [] []) = true := by rw [right_mk]; simp
    exact EncOut.some (enc_flat hr (by simp [Rep.kind])) rfl
  clear H
  go_enter Tryd.func19, Tryd.ntmps19
  go_wp2_with fail
  refine (HBa.out _).mono ?_; rintro e w1 ⟨rfl, hb⟩
  have HB1 := hid ((below_alloc w _).trans (hb.out.mono (by simp)))
  have HR1 := hid ((hb.out.block _ (by simp)).trans (HZ.out _))
  clear hb HBa
  obtain ⟨⟨e0, e1, e2, e3⟩, -⟩ := row_facts HR1.out
  go_wp2_with fail
  go_ret2
  exact ⟨_, _, rfl, HF.out, HB1.out⟩

end Go.Proofs.YtngkbacnajgmcaaDoor
