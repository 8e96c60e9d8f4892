/- A packet put together: summed. -/
import Derived.Test.YtgpdbcigogkkbaaDoorPkBytes
import Derived.Test.YtgpdbcigogkkbaaDoorShelfJ
namespace Go.Proofs.YtgpdbcigogkkbaaDoor
open Go.RowKit
open Crc

theorem join_flat : ∀ l : List Bs, Lib.join l [] = l.flatten
  | [] => rfl
  | a :: l => by
    rw [Lib.join_cons, List.flatten_cons]
    unfold Lib.joinTail
    rw [List.map_id'' (fun x => List.nil_append x)]
theorem bytes_append (a b : List UInt8) : ((⟨a.toArray⟩ : ByteArray) ++ ⟨b.toArray⟩) = ⟨(a ++ b).toArray⟩ := by
  apply ByteArray.ext
  simp
theorem ret_app {a b c : Bs} (h : a ++ b = c) : Ending.returned (.string ((⟨a.toArray⟩ : ByteArray) ++ ⟨b.toArray⟩)) = .returned (.string ⟨c.toArray⟩) := by rw [bytes_append, h]
set_option maxHeartbeats 1000000 in
/-- summed -/
theorem summed_any (bk c : Nat) (L : List Bs) (w : World) (hE : Env w) (hc : ∀ (j : Nat) (x : Bs), L[j]? = some x → w.cell? ⟨bk, 0 + j, none⟩ = some (.string ⟨x.toArray⟩)) (hb : bk < w.heap.size) (hL : L.length ≤ 7) (hcap : L.length ≤ c) (hl : L.flatten.length ≤ 1000000) :
    Calls Tryd.prog 17 #[.slice (some ⟨bk, 0, none⟩) L.length c] w fun e w' => e = .returned (.string ⟨(L.flatten ++ be 2 (sumN L.flatten)).toArray⟩) ∧ Below w.heap.size w w' := by
  have hm : (L.map fun b => (⟨b.toArray⟩ : ByteArray)).map (·.data.toList) = L := by
    rw [List.map_map]; exact List.map_id'' (fun x => by simp) L
  have HJ := hid (Tryd.strings_Join bk 0 c (L.map fun b => ⟨b.toArray⟩) ⟨#[]⟩ w (fun j x hx => by
    rw [List.getElem?_map] at hx
    cases h : L[j]? with
    | none => rw [h] at hx; cases hx
    | some y => rw [h] at hx; obtain rfl := Option.some.inj hx; exact hc j y h) hb (by rw [List.length_map]; omega) (by rw [List.length_map]; exact hcap) (by rw [hm, show (⟨#[]⟩ : ByteArray).data.toList = [] from rfl, join_flat]; omega))
  rw [hm, List.length_map, show (⟨#[]⟩ : ByteArray).data.toList = [] from rfl, join_flat] at HJ
  have kc := fun (w : World) (s : ByteArray) => Lib.run_convert_string_bytes (P := Tryd.prog) w 9 36 5 s Tryd.underlying9 Tryd.underlying36 Tryd.underlying5
  have HN := hid (fun n w => number_any 2 n (by decide) w)
  have HE := hid hE
  have HS := sumN_lt L.flatten
  have HSu : Hid (∀ (c : Nat) (w : World), Env w → Calls Tryd.prog 24 #[.slice (some ⟨w.heap.size, 0, none⟩) L.flatten.length c] (Lib.bytesWorld w 5 ⟨L.flatten.toArray⟩) fun e w' => e = .returned (.int .u16 (sumN L.flatten : Int)) ∧ w' = Lib.bytesWorld w 5 ⟨L.flatten.toArray⟩) := fun c w hE => sum_of L.flatten c w hE.tab hE.room (by omega)
  generalize L.flatten = T at *
  generalize sumN T = z at *
  clear hc hE hm
  go_enter Tryd.func17, Tryd.ntmps17
  go_wp2_with fail
  refine HJ.out.mono ?_; rintro e w1 ⟨rfl, hb1⟩
  have HW1 := hid hb1
  have HE1 := hid (HE.out.below hb1 HE.out.room)
  clear hb1
  go_wp2_with fail
  refine (HSu.out _ _ HE1.out).mono ?_; rintro e w2 ⟨rfl, rfl⟩
  have HW2 := hid (HW1.out.trans ((bytesWorld_below w1 5 ⟨T.toArray⟩).mono HW1.out.size))
  go_wp2_with fail
  refine (HN.out z _).mono ?_; rintro e w3 ⟨rfl, hb3⟩
  have HW3 := hid (HW2.out.trans (hb3.mono HW2.out.size))
  clear hb3
  have hz2 := be_len 2 z
  obtain ⟨Z, hZ⟩ : ∃ Z, Z = be 2 z := ⟨_, rfl⟩
  have HZ := hid hZ
  rw [← hZ] at hz2 ⊢
  clear hZ
  go_wp2
  go_ret
  exact ⟨ret_app (by rw [HZ.out]), HW3.out⟩

end Go.Proofs.YtgpdbcigogkkbaaDoor
