/- Numbers as texts, and back, by strconv; what the calls read of the package variables. -/
import Derived.Test.YtenncfohifekhaaDoorPEnv
import Derived.Test.YtenncfohifekhaaDoorLastAny
import Derived.Lib.AtoiAll
import Derived.Lib.AtoiAllCases
namespace Go.Proofs.YtenncfohifekhaaDoor
open Go.RowKit

theorem dec_dig' (n : Nat) : ∀ b ∈ dec n, 48 ≤ b.toNat ∧ b.toNat ≤ 57 := fun b hb => dec_dig n b hb
theorem parse_dec_aux (l : List UInt8) : ∀ acc d, (∀ b ∈ l, 48 ≤ b.toNat ∧ b.toNat ≤ 57) → 48 ≤ d.toNat → d.toNat ≤ 57 →
    Lib.parseUint10 acc (l ++ [d]) = (match Lib.parseUint10 acc l with | .ok u => if 1844674407370955162 ≤ u then .range else if 18446744073709551616 ≤ u * 10 + (d.toNat - 48) then .range else .ok (u * 10 + (d.toNat - 48)) | e => e) := by
  induction l with
  | nil => intro acc d _ h1 h2; simp [Lib.parseUint10, h1, h2]
  | cons c l ih =>
    intro acc d h h1 h2
    have hc := h c (by simp)
    simp only [List.cons_append, Lib.parseUint10, if_pos hc]
    split
    · rfl
    · split
      · rfl
      · exact ih _ d (fun b hb => h b (by simp [hb])) h1 h2
theorem parse_dec (n : Nat) (hn : n < 18446744073709551616) : Lib.parseUint10 0 (dec n) = .ok n := by
  induction n using Nat.strongRecOn with
  | ind n ih =>
    unfold dec
    rw [Lib.decDigits]
    split
    · have e : (UInt8.ofNat (48 + n)).toNat = 48 + n := by rw [UInt8.toNat_ofNat']; omega
      simp only [Lib.parseUint10, e]
      rw [if_pos (by omega), if_neg (by omega), if_neg (by omega)]
      congr 1
      omega
    · have e : (UInt8.ofNat (48 + n % 10)).toNat = 48 + n % 10 := by rw [UInt8.toNat_ofNat']; omega
      rw [parse_dec_aux _ 0 _ (dec_dig' _) (by omega) (by omega), ih (n / 10) (by omega) (by omega)]
      simp only [e]
      rw [if_neg (by omega), if_neg (by omega)]
      congr 1
      omega
theorem mag_dec (n : Nat) (hn : n < 18446744073709551616) : Lib.parseMag (dec n) = .ok n := by
  unfold Lib.parseMag
  rw [if_neg (dec_ne n), parse_dec n hn]
/-- a number that is written is read as it was -/
theorem atoi_itoa (v : Int) (h0 : -9223372036854775808 ≤ v) (h1 : v ≤ 9223372036854775807) : Lib.atoiAll (Lib.itoa v) = .ok v := by
  by_cases hv : 0 ≤ v
  · obtain ⟨n, rfl⟩ := Int.eq_ofNat_of_zero_le hv
    rw [Lib.itoa_nonneg]
    have hm := mag_dec n (by omega)
    have hd := dec_dig' n
    have hne := dec_ne n
    unfold dec at hm hd hne
    generalize Lib.decDigits n = l at hm hd hne
    cases l with
    | nil => exact absurd rfl hne
    | cons c r =>
      have hc := hd c (by simp)
      rw [Lib.atoiAll_plain c r (by omega) (by omega), hm]
      simp only [Lib.signless]
      rw [if_neg (by omega)]
  · obtain ⟨n, hn⟩ : ∃ n : Nat, v = -(n : Int) := ⟨v.natAbs, by omega⟩
    subst hn
    rw [Lib.itoa_neg n (by omega), Lib.atoiAll_minus]
    have hm := mag_dec n (by omega)
    unfold dec at hm
    rw [hm]
    simp only [Lib.signed]
    rw [if_neg (by omega)]
/-- a part with its sign is read as it was -/
theorem atoi_signY (y : Int) (h0 : -9223372036854775808 ≤ y) (h1 : y ≤ 9223372036854775807) : Lib.atoiAll (signY y) = .ok y := by
  unfold signY
  by_cases hy : y < 0
  · rw [if_pos hy]; exact atoi_itoa y h0 h1
  · rw [if_neg hy, itoa_parts, if_neg hy, Lib.atoiAll_plus, mag_dec _ (by omega)]
    simp only [Lib.signless]
    rw [if_neg (by omega)]
    congr 1
    omega
/-- all that the calls read of the package-level variables -/
structure EnvA (w : World) : Prop where
  env : Env w
  envs : Envs w
  syn : ∃ tp p, w.var? Tryd.prog "strconv.ErrSyntax" = some #[.iface tp p]
  ran : ∃ tp p, w.var? Tryd.prog "strconv.ErrRange" = some #[.iface tp p]
theorem gSyn : Tryd.prog.globalNamed "strconv.ErrSyntax" = some 1 := by kernel_rfl
theorem gRan : Tryd.prog.globalNamed "strconv.ErrRange" = some 2 := by kernel_rfl
theorem EnvA.below {w w' : World} (h : EnvA w) (hb : Below w.heap.size w w') : EnvA w' := by
  refine ⟨h.env.below hb, h.envs.below hb, ?_, ?_⟩
  · obtain ⟨tp, p, k⟩ := h.syn
    refine ⟨tp, p, ?_⟩
    unfold World.var? at k ⊢
    rw [gSyn] at k ⊢
    simp only [Option.bind_some] at k ⊢
    rw [hb.block 1 (Nat.lt_trans (by decide) h.env.room)]; exact k
  · obtain ⟨tp, p, k⟩ := h.ran
    refine ⟨tp, p, ?_⟩
    unfold World.var? at k ⊢
    rw [gRan] at k ⊢
    simp only [Option.bind_some] at k ⊢
    rw [hb.block 2 (Nat.lt_trans (by decide) h.env.room)]; exact k
theorem bytesWorld_below (w : World) (e : TypeId) (s : ByteArray) : Below w.heap.size w (Lib.bytesWorld w e s) :=
  ⟨rfl, rfl, rfl, by rw [Lib.bytesWorld_size]; omega, fun k hk => Lib.bytesWorld_at_old w e s k hk⟩
/-- strconv.Atoi of any text -/
theorem atoi_ok (l : List UInt8) (v : Int) (w : World) (hl : l.length ≤ 281474976710656) (h : Lib.atoiAll l = .ok v) :
    Calls Tryd.prog 32 #[.string ⟨l.toArray⟩] w fun e w' => e = .returned (.tuple #[.int .i64 v, .nilIface]) ∧ Hid (Below w.heap.size w w') := by
  refine (Tryd.strconv_Atoi_ok ⟨l.toArray⟩ (by simp [ByteArray.size]; omega) v h w).mono ?_
  rintro e w' ⟨rfl, rfl | ⟨t, rfl⟩⟩
  · exact ⟨rfl, Below.refl _ _⟩
  · exact ⟨rfl, bytesWorld_below _ _ _⟩
theorem atoi_any (l : List UInt8) (w : World) (hE : EnvA w) (hl : l.length ≤ 281474976710656) :
    Calls Tryd.prog 32 #[.string ⟨l.toArray⟩] w fun e w' => (∃ v : Int, e = .returned (.tuple #[.int .i64 v, .nilIface]) ∨ ∃ (t : TypeId) (p : Value), e = .returned (.tuple #[.int .i64 v, .iface t p])) ∧ Hid (Below w.heap.size w w') := by
  cases hh : Lib.atoiAll l with
  | ok v =>
    refine (atoi_ok l v w hl hh).mono ?_
    rintro e w' ⟨rfl, hb⟩
    exact ⟨⟨v, .inl rfl⟩, hb⟩
  | «syntax» =>
    obtain ⟨tp, p, hv⟩ := hE.syn
    refine (Tryd.strconv_Atoi_syntax_var ⟨l.toArray⟩ (by simp [ByteArray.size]; omega) hh tp p w hv).mono ?_
    rintro e w' ⟨N, rfl, _, _, hb⟩
    exact ⟨⟨_, .inr ⟨_, _, rfl⟩⟩, hb⟩
  | range =>
    obtain ⟨tp, p, hv⟩ := hE.ran
    refine (Tryd.strconv_Atoi_range_var ⟨l.toArray⟩ (by simp [ByteArray.size]; omega) hh tp p w hv).mono ?_
    rintro e w' ⟨N, rfl, _, _, hb⟩
    exact ⟨⟨_, .inr ⟨_, _, rfl⟩⟩, hb⟩
/-- the i at the end, cut off -/
theorem cut_any (s : List UInt8) (w : World) (hs : s.length ≤ 281474976710656) :
    Calls Tryd.prog 30 #[.string ⟨s.toArray⟩, .string ⟨#[105]⟩] w fun e w' => e = .returned (.tuple #[.string ⟨(Lib.trimSuffix s [105]).toArray⟩, .bool (Lib.hasSuffix s [105])]) ∧ w' = w :=
  Tryd.strings_CutSuffix ⟨s.toArray⟩ ⟨#[105]⟩ w (by simp [ByteArray.size]; omega)
theorem has_wr (t : List UInt8) : Lib.hasSuffix (t ++ [105]) [105] = true := by
  unfold Lib.hasSuffix
  exact List.isSuffixOf_iff_suffix.2 ⟨t, rfl⟩
theorem trim_wr (t : List UInt8) : Lib.trimSuffix (t ++ [105]) [105] = t := by
  unfold Lib.trimSuffix
  rw [if_pos (has_wr t)]
  simp
theorem has_ne {s : List UInt8} (h : Lib.hasSuffix s [105] = true) : s ≠ [] := fun e => by subst e; exact absurd h (by decide)

end Go.Proofs.YtenncfohifekhaaDoor
