/- How a client is told: the program's line, Text. -/
import Derived.Test.YtpmpndfinghlkaaDoorRtBase
import Derived.Test.YtpmpndfinghlkaaDoorRtPlain
import Derived.Test.YtpmpndfinghlkaaDoorRtDig
import Derived.Test.YtpmpndfinghlkaaDoorRtRef
namespace Go.Proofs.YtpmpndfinghlkaaDoor
open Go.RowKit

/-- a word with numbers behind it -/
def lineV (W : List UInt8) (L : List Int) : List UInt8 := L.foldl (fun a n => a ++ 32 :: Lib.itoa n) W
theorem lineV_snoc (W : List UInt8) (L : List Int) (x : Int) : lineV W (L ++ [x]) = lineV W L ++ 32 :: Lib.itoa x := by simp [lineV]
def In64 (x : Int) : Prop := -9223372036854775808 ≤ x ∧ x ≤ 9223372036854775807
set_option maxHeartbeats 2000000 in
set_option maxRecDepth 100000 in
theorem line_any (W : List UInt8) (b o : Nat) (L : List Int) (n c : Nat) (w : World) (hE : Env w) (hn : L.length = n) (hb : b < w.heap.size) (hr : ∀ j (h : j < L.length), w.cell? ⟨b, o + j, none⟩ = some (.int .i64 L[j])) (hin : ∀ x ∈ L, In64 x) (hW : W.length ≤ 100) (hn3 : n ≤ 3) :
    Calls Tryd.prog 19 #[.string ⟨W.toArray⟩, .slice (some ⟨b, o, none⟩) n c] w fun e w' => e = .returned (.string ⟨(lineV W L).toArray⟩) ∧ Below w.heap.size w w' := by
  have HX : Hid (∀ (V : World) i (h : i < n), Below w.heap.size w V → ∃ x, V.cell? ⟨b, o + i, none⟩ = some (.int .i64 x) ∧ In64 x ∧ L.take (i + 1) = L.take i ++ [x]) := fun V i h hV =>
    ⟨L[i]'(by omega), (hV.cell (p := ⟨b, o + i, none⟩) hb).trans (hr i _), hin _ (List.getElem_mem _), by rw [List.take_succ_eq_append_getElem (by omega)]⟩
  have HFin : Hid (L.take n = L) := List.take_of_length_le (by omega)
  have HEn := hid fun (V : World) (hV : Below w.heap.size w V) => hE.below hV hE.room
  have HT := hid fun (x : Int) (V : World) (h : Env V) (hx : In64 x) => itoa_any x V h hx.1 hx.2
  have hn3z : (n : Int) ≤ 3 := by omega
  clear hr hn hE hin hb
  go_enter Tryd.func19, Tryd.ntmps19
  go_wp2_with fail
  go_loopw [0, 6, 9] (fun v0 _ v9 V => ∃ (i : Nat) (A : List UInt8), i ≤ n ∧ v9 = .int .i64 (i : Int) ∧ v0 = .string ⟨A.toArray⟩ ∧ A.length ≤ 100 + 22 * i ∧ Hid (A = lineV W (L.take i)) ∧ Hid (Below w.heap.size w V)) (fun _ _ v9 _ => n - (intOf v9).toNat)
  case atStart => exact ⟨0, W, Nat.zero_le _, rfl, rfl, by omega, rfl, Below.refl _ _⟩
  case round =>
    obtain ⟨i, A, hi, rfl, rfl, hA, HA, HB⟩ := hrel
    by_cases hlt : i < n
    · have hlz : (i : Int) < (n : Int) := by omega
      obtain ⟨x, c0, hx, htk⟩ := HX.out wr i hlt HB.out
      have HK := hid htk
      have HXx := hid hx
      have hTl : (Lib.itoa x).length ≤ 21 := itoa_len x hx.1 hx.2
      have HI := hid (HT.out x wr (HEn.out _ HB.out) hx)
      obtain ⟨T, hT⟩ : ∃ T, Lib.itoa x = T := ⟨_, rfl⟩
      have HTe := hid hT
      rw [hT] at hTl HI
      have hc1 : (⟨#[32]⟩ ++ ⟨T.toArray⟩ : ByteArray) = ⟨(32 :: T).toArray⟩ := by rw [show (⟨#[32]⟩ : ByteArray) = ⟨[32].toArray⟩ from rfl, app_ba]; rfl
      have hc2 : (⟨A.toArray⟩ ++ ⟨(32 :: T).toArray⟩ : ByteArray) = ⟨(A ++ 32 :: T).toArray⟩ := app_ba _ _
      have hl1 : (32 :: T).length ≤ 22 := by simp; omega
      obtain ⟨S, hS⟩ : ∃ S, 32 :: T = S := ⟨_, rfl⟩
      have HSe := hid hS
      rw [hS] at hc1 hc2 hl1
      have hAl : A.length ≤ 200 := by omega
      clear hT hx htk hS
      go_wp2_with fail
      refine HI.out.mono ?_; rintro e w2 ⟨rfl, hb2⟩
      have HB2 := hid (HB.out.trans (hb2.mono HB.out.size))
      clear hb2 HI HB
      go_wp2
      exact ⟨⟨i + 1, A ++ S, by omega, by go_num, rfl, by simp; omega, by show A ++ S = lineV W (L.take (i + 1)); rw [HK.out, lineV_snoc, ← HA.out, HTe.out, HSe.out], HB2.out⟩, by simp [intOf]; omega⟩
    · have hik : i = n := by omega
      subst hik
      go_wp2
      go_ret
      refine ⟨?_, HB.out⟩
      rw [← HFin.out, ← HA.out]
      rfl

end Go.Proofs.YtpmpndfinghlkaaDoor
