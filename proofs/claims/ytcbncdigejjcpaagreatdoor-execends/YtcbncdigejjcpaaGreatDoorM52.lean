/- YI, ZA, LawEnds. -/
import Derived.Test.YtcbncdigejjcpaaGreatDoorM51
import Derived.Test.YtcbncdigejjcpaaGreatDoorM42
import Derived.Test.YtcbncdigejjcpaaGreatDoorM48
import Derived.Test.YtcbncdigejjcpaaGreatDoorM47
import Derived.Test.YtcbncdigejjcpaaGreatDoorM49
import Derived.Test.YtcbncdigejjcpaaGreatDoorM25
namespace Go.Proofs.YtcbncdigejjcpaaGreatDoor.Ex
open Re (Rep)
open Go.RowKit

set_option maxHeartbeats 8000000 in
set_option maxRecDepth 100000 in
theorem a4 (k x : Nm) : Ans 50 cSET [k, x] (fun room now L => (putLL L room now (k, plainV x, 0), putR L room now (k, plainV x, 0) okR)) := by
  intro B w b O A L room now hS p c hR hT hlen hO
  dsimp only
  obtain ⟨g, o, rfl, hc⟩ := hR.strs (List.cons_ne_nil _ _)
  have h0 : w.cell? ⟨g, o, none⟩ = some (txt k) := hc 0 (by simp)
  have H0 := hid h0
  have hl0 : k.length ≤ 140737488351232 := hT k (by simp)
  have h1 : w.cell? ⟨g, o + 1, none⟩ = some (txt x) := hc 1 (by simp)
  have H1 := hid h1
  have hl1 : x.length ≤ 140737488351232 := hT x (by simp)
  have hgl := block_lt_of_cell h0
  have hcap : 2 ≤ c := hR.cap
  have HS := hid hS
  have HA := hid (al_two w (cob b cSET (some ⟨g, o, none⟩) 2 c) rob0)
  have HTb := hid (tab_of hS)
  have k0 := cell_turn h0 (HA.out.1.block g hgl)
  have k1 := cell_turn h1 (HA.out.1.block g hgl)
  clear h0 h1 hc
  clear hS hR hT hO hlen
  obtain ⟨M, hM⟩ : ∃ M, M = putLL L room now (k, plainV x, 0) := ⟨_, rfl⟩
  obtain ⟨R, hR⟩ : ∃ R, R = putR L room now (k, plainV x, 0) okR := ⟨_, rfl⟩
  have HI := hid (fun (W : World) (hb : Below w.heap.size w W) => set_two (HS.out.below hb) cSET (some ⟨g, o, none⟩) 2 c g o c k x (cell_turn H0.out (hb.block g hgl)) (cell_turn H1.out (hb.block g hgl)) hcap hl0 hl1)
  rw [← hM, ← hR] at HI ⊢
  clear hM hR
  go_enter Tryz.func50, Tryz.ntmps50
  go_wp2_with fail
  have HB0 := hid HA.out.1
  have hs0 : w.heap.size + 2 ≤ ((w.alloc (cob b cSET (some ⟨g, o, none⟩) 2 c)).alloc rob0).heap.size := Nat.le_of_eq HA.out.2.2.2.symm
  have HC0 := hid HA.out.2.1
  have HZ0 := hid HA.out.2.2.1
  clear k0 k1
  generalize ((w.alloc (cob b cSET (some ⟨g, o, none⟩) 2 c)).alloc rob0) = w0 at HB0 hs0 HC0 HZ0 ⊢
  clear HA
  refine (HI.out w0 HB0.out).mono ?_; rintro e w1 ⟨q, d, rfl, hh⟩
  have HH := hid hh.out
  have HZ1 := hid ((show w1.heap[w.heap.size + 1]? = w0.heap[w.heap.size + 1]? by
      obtain ⟨O', A', _, h2, _⟩ := HH.out.ex
      exact own_block' HS.out h2 (w.heap.size + 1) (by omega) (by omega)).trans HZ0.out)
  clear hh
  go_wp2_with (refine wpList_store_row rfl 32 _ _ rfl (w.heap.size + 1) #[.int .i64 R.kind, .int .i64 R.int, txt R.text, .slice q R.list.length d] rfl rfl 32 _ HZ1.out (Re.infoRep _ _ _ _) rfl (one_r _ _ _) ?_)
  refine bodyPost_ret (v := rval R q d) ?_ rfl ?_
  · exact Re.ret_rep1 rfl rfl (setRow_heap w1 _ _ _ _ _ HZ1.out)
  · exact ⟨q, d, rfl, Post.set HH.out HS.out HB0.out (w.heap.size + 1) (by omega) (by omega) (fun _ hj => hj.elim) (keep_row _ _ _)⟩

end Go.Proofs.YtcbncdigejjcpaaGreatDoor.Ex

namespace Go.Proofs.YtcbncdigejjcpaaGreatDoor.Ex
open Re (Rep)
open Go.RowKit

/-- what the command a answers and makes of the entries, once it is known and its arguments fit -/
noncomputable def ansM (a : Row) (room now : Int) (L : List EP) : List EP × Rep := match early L (Tb.place (Tb.great (arg a 0))) a with
  | some f => (L, fault f)
  | none => doC room now L (Tb.place (Tb.great (arg a 0))) a
theorem doM_ans (room : Int) (L : List EP) (now : Int) (a : Row) (t : Int) : doM room L now a t = ((if (Tb.chk a).2 = 120 then (tickL (tickN now t) L, fault fUnknown) else if (Tb.chk a).2 ≠ 0 then (tickL (tickN now t) L, fault fArity) else ansM a room (tickN now t) (tickL (tickN now t) L)).1, tickN now t, (if (Tb.chk a).2 = 120 then (tickL (tickN now t) L, fault fUnknown) else if (Tb.chk a).2 ≠ 0 then (tickL (tickN now t) L, fault fArity) else ansM a room (tickN now t) (tickL (tickN now t) L)).2) := by
  unfold doM ansM
  dsimp only
  by_cases h : (Tb.chk a).2 = 120
  · rw [if_pos h, if_pos h]
  · rw [if_neg h, if_neg h]
    by_cases h0 : (Tb.chk a).2 ≠ 0
    · rw [if_pos h0, if_pos h0]
    · rw [if_neg h0, if_neg h0]
      cases early (tickL (tickN now t) L) (Tb.place (Tb.great (arg a 0))) a <;> rfl
/-- a command whose way is known is done -/
theorem do_of {B : Nat} {a : Row} (h : Ans 28 (Tb.chk a).1.nm (a.drop 1) (ansM a)) : DoAt B a := by
  intro w b O A L room now hS p c t hR hO hl hT _
  refine (do_walk a (ansM a) (fun _ => h) B w b O A L room now hS p c t hR hO hl hT).mono ?_
  rintro e w' ⟨v, rfl, hh⟩
  obtain ⟨O', A', h1, h2, h3⟩ := hh.out.ex
  rw [doM_ans]
  exact ⟨v, rfl, O', A', h1, h2, h3⟩
theorem ans_eq {F : Nat} {nm nm' : Nm} {t : Row} {M M' : Int → Int → List EP → List EP × Rep} (h : Ans F nm t M) (hn : nm' = nm) (e : ∀ room now L, Fine L now → M' room now L = M room now L) : Ans F nm' t M' := by
  subst hn
  intro B w b O A L room now hS p c hR hT hl hO
  rw [e room now L hS.fine]
  exact h B w b O A L room now hS p c hR hT hl hO
/-- what is amiss ahead, for a command of one kind and one key, without numbers -/
theorem early_one {L : List EP} {c : Nat} {a : Row} {k : Nm} {K : Int} (hK : kindC c = K) (h0 : K ≠ 0) (hk : Tb.keysL a = [k]) (hn : numsC c a = []) (h13 : c ≠ 13) (h34 : c ≠ 34) (h36 : c ≠ 36) (h37 : c ≠ 37) : early L c a = if otherK L k K then some fType else none := by
  unfold early otherK
  subst hK
  rw [if_neg (by simp [h13]), hn, if_neg (by simp), if_neg (by simp [h34, h36, h37]), hk]
  simp only [h0, ne_eq, not_false_eq_true, true_and, List.any_cons, List.any_nil, Bool.or_false]
theorem cur_of {L : List EP} {k : Nm} {K : Int} : (curV L k K).text = (valOf L k).text ∧ (curV L k K).pairs = (valOf L k).pairs ∧ (curV L k K).items = (valOf L k).items ∧ (curV L k K).px = (valOf L k).px ∧ (curV L k K).py = (valOf L k).py := by
  unfold curV valOf isIn
  cases getL k L <;> exact ⟨rfl, rfl, rfl, rfl, rfl⟩
theorem ansM_at {a : Row} {c : Nat} {room now : Int} {L : List EP} (hc : Tb.place (Tb.great (arg a 0)) = c) : ansM a room now L = match early L c a with | some f => (L, fault f) | none => doC room now L c a := by
  unfold ansM
  rw [hc]
theorem ans_none {a : Row} {c : Nat} {room now : Int} {L : List EP} (hc : Tb.place (Tb.great (arg a 0)) = c) (he : early L c a = none) : ansM a room now L = doC room now L c a := by
  rw [ansM_at hc, he]
theorem ans_one {a : Row} {c : Nat} {k : Nm} {K : Int} {room now : Int} {L : List EP} (hc : Tb.place (Tb.great (arg a 0)) = c) (hK : kindC c = K) (h0 : K ≠ 0) (hk : Tb.keysL a = [k]) (hn : numsC c a = []) (h13 : c ≠ 13) (h34 : c ≠ 34) (h36 : c ≠ 36) (h37 : c ≠ 37) : ansM a room now L = if otherK L k K then (L, fault fType) else doC room now L c a := by
  rw [ansM_at hc, early_one hK h0 hk hn h13 h34 h36 h37]
  cases otherK L k K <;> rfl
theorem with_text (room now : Int) (L : List EP) (k x : Nm) (e : Int) (r : Rep) : withM room now L (k, plainV x, e) r = (putLL L room now (k, plainV x, e), putR L room now (k, plainV x, e) r) := withM_put (x := (k, plainV x, e)) rfl
theorem rowSET {B : Nat} (n k x : Nm) (hc : Tb.place (Tb.great n) = 4) (hn : (Tb.chk [n, k, x]).1.nm = cSET) : DoAt B [n, k, x] :=
  do_of (ans_eq (vSET (a4 k x)) hn fun room now L hF => by
    rw [ans_none (a := [n, k, x]) (c := 4) hc (early_any rfl rfl (by decide) (by decide) (by decide) (by decide))]
    exact with_text room now L k x 0 okR)
theorem rowEXISTS {B : Nat} (n : Nm) (t : Row) (hne : t ≠ []) (hc : Tb.place (Tb.great n) = 6) (hn : (Tb.chk (n :: t)).1.nm = cEXISTS) : DoAt B (n :: t) :=
  do_of (ans_eq (vEXISTS (a6 t hne)) hn fun room now L hF => by
    rw [ans_none (a := (n :: t)) (c := 6) hc (early_any rfl rfl (by decide) (by decide) (by decide) (by decide))]
    rfl)
theorem rowTTL {B : Nat} (n k : Nm) (hc : Tb.place (Tb.great n) = 41) (hn : (Tb.chk [n, k]).1.nm = cTTL) : DoAt B [n, k] :=
  do_of (ans_eq (vTTL (a41 k)) hn fun room now L hF => by
    rw [ans_none (a := [n, k]) (c := 41) hc (early_any rfl rfl (by decide) (by decide) (by decide) (by decide))]
    rfl)
theorem rowGET {B : Nat} (n k : Nm) (hc : Tb.place (Tb.great n) = 3) (hn : (Tb.chk [n, k]).1.nm = cGET) (hk : Tb.keysL [n, k] = [k]) : DoAt B [n, k] :=
  do_of (ans_eq (vGET (a3 k)) hn fun room now L hF => by
    rw [ans_one (a := [n, k]) (c := 3) (K := 1) hc rfl (by decide) hk rfl (by decide) (by decide) (by decide) (by decide)]
    cases otherK L k 1
    · show doC room now L 3 [n, k] = (L, tonR (curV L k 1).text (isIn L k))
      rw [cur_of.1]
      rfl
    · rfl)
theorem rowRPUSH {B : Nat} (n k : Nm) (ts : Row) (hts : ts ≠ []) (hc : Tb.place (Tb.great n) = 19) (hn : (Tb.chk (n :: k :: ts)).1.nm = cRPUSH) (hk : Tb.keysL (n :: k :: ts) = [k]) : DoAt B (n :: k :: ts) :=
  do_of (ans_eq (vRPUSH (a19 k ts hts)) hn fun room now L hF => by
    rw [ans_one (a := (n :: k :: ts)) (c := 19) (K := 3) hc rfl (by decide) hk rfl (by decide) (by decide) (by decide) (by decide)]
    unfold chM
    cases otherK L k 3
    · rw [if_neg (by decide), if_neg (by decide), cur_of.2.2.1]
      show (match pushM false (valOf L k).items ts with | none => (L, fault fLong) | some l => withM room now L (k, listV l, endOf L k) (wholeR (l.length : Int))) = _
      unfold pushR
      cases pushM false (valOf L k).items ts with
      | none => rfl
      | some l => rfl
    · rfl)
theorem rowLRANGE {B : Nat} (n k a t : Nm) (hc : Tb.place (Tb.great n) = 24) (hn : (Tb.chk [n, k, a, t]).1.nm = cLRANGE) (hk : Tb.keysL [n, k, a, t] = [k]) : DoAt B [n, k, a, t] :=
  do_of (ans_eq (vLRANGE (a24 k a t)) hn fun room now L hF => by
    rw [ansM_at (a := [n, k, a, t]) (c := 24) hc]
    have he : early L 24 [n, k, a, t] = if Num.tellE t ≠ 0 ∨ Num.tellE a ≠ 0 then some fNumber else if otherK L k 3 then some fType else none := by
      unfold early otherK
      rw [if_neg (by simp), show numsC 24 [n, k, a, t] = [a, t] from rfl, hk]
      by_cases ha : Num.tellE a = 0 <;> by_cases hb : Num.tellE t = 0 <;> simp [ha, hb, kindC]
    rw [he]
    by_cases h : Num.tellE t ≠ 0 ∨ Num.tellE a ≠ 0
    · rw [if_pos h, if_pos h]
    · rw [if_neg h, if_neg h]
      cases otherK L k 3
      · show (L, bulksR (rangeM (valOf L k).items (Num.tellV a) (Num.tellV t))) = (L, bulksR (Dk.rangeL (curV L k 3).items (Num.tellV a) (Num.tellV t)))
        rw [cur_of.2.2.1]
        rfl
      · rfl)
theorem rowEXPIRE {B : Nat} (n k a : Nm) (hc : Tb.place (Tb.great n) = 40) (hn : (Tb.chk [n, k, a]).1.nm = cEXPIRE) : DoAt B [n, k, a] :=
  do_of (ans_eq (vEXPIRE (a40 k a)) hn fun room now L hF => by
    rw [ansM_at (a := [n, k, a]) (c := 40) hc]
    have he : early L 40 [n, k, a] = if Num.tellE a ≠ 0 then some fNumber else none := by
      unfold early
      rw [if_neg (by simp), show numsC 40 [n, k, a] = [a] from rfl]
      by_cases ha : Num.tellE a = 0 <;> simp [ha, kindC]
    rw [he]
    by_cases h : Num.tellE a ≠ 0
    · rw [if_pos h, if_pos h]
    · rw [if_neg h, if_neg h]
      show doC room now L 40 [n, k, a] = _
      show (if isIn L k = false then (L, wholeR 0) else if min (Num.tellV a) (1099511627776 - now) < 1 then (delL k L, wholeR 1) else withM room now L (k, valOf L k, now + min (Num.tellV a) (1099511627776 - now)) (wholeR 1)) = _
      cases hi : isIn L k
      · rw [if_pos rfl, if_pos rfl]
      · rw [if_neg (show ¬ (true = false) by decide), if_neg (show ¬ (true = false) by decide)]
        by_cases hm : min (Num.tellV a) (1099511627776 - now) < 1
        · rw [if_pos hm, if_pos hm]
        · rw [if_neg hm, if_neg hm]
          refine withM_put (x := (k, valOf L k, now + min (Num.tellV a) (1099511627776 - now))) (right_full ?_)
          show RtV (valOf L k)
          unfold isIn at hi
          unfold valOf
          cases hg : getL k L with
          | none => rw [hg] at hi; cases hi
          | some x => exact (hF.good x (List.mem_of_find?_eq_some hg)).2.1)

end Go.Proofs.YtcbncdigejjcpaaGreatDoor.Ex

namespace Go.Proofs.YtcbncdigejjcpaaGreatDoor.Ex
open Re (Rep)
open Go.RowKit

theorem itoa_le (n : Int) (h0 : -9223372036854775808 ≤ n) (h1 : n ≤ 9223372036854775807) : (Lib.itoa n).length ≤ 9000000 := Nat.le_trans (Lib.itoa_length_le n h0 h1) (by decide)
theorem txs3 {a b c : Nm} (ha : a.length ≤ 1000) (hb : b.length ≤ 1024) (hc : c.length ≤ 9000000) : Txm [a, b, c] := fun t ht => by
  simp only [List.mem_cons, List.not_mem_nil, or_false] at ht
  rcases ht with rfl | rfl | rfl <;> omega
theorem txs2 {a b : Nm} (ha : a.length ≤ 1000) (hb : b.length ≤ 1024) : Txm [a, b] := fun t ht => by
  simp only [List.mem_cons, List.not_mem_nil, or_false] at ht
  rcases ht with rfl | rfl <;> omega
set_option maxHeartbeats 16000000 in
set_option maxRecDepth 100000 in
theorem ends_any {B : Nat} (hB0 : 8 < B) (w : World) (hT : Tab w) (hB : B ≤ w.heap.size) (k : Nm) (n m : Int) (hkb : k.length ≤ 140737488351232) (hn : In64 n) (hm : In64 m) :
    Calls Tryz.prog 8 #[txt k, .int .i64 n, .int .i64 m] w fun e w' => e = .returned (.bool true) ∧ Hid (Below w.heap.size w w') := by
  have HAl := hid (fun W (h : Below w.heap.size w W) => alive_any (rowRPUSH nrpush [108] [[97], [98]] (by decide) (by kernel_rfl) (by kernel_rfl) (by kernel_rfl)) (rowLRANGE nLRANGE [108] [48] [45, 49] (by kernel_rfl) (by kernel_rfl) (by kernel_rfl)) (rowGET nGET [108] (by kernel_rfl) (by kernel_rfl) (by kernel_rfl)) hB0 W (hT.env h) (Nat.le_trans hB h.size))
  have HN := hid (knew_any hB0 w hT hB 1099511627776)
  have hkz : (k.length : Int) ≤ 140737488351232 := by omega
  unfold In64 at hn hm
  obtain ⟨n0, n1⟩ := hn
  obtain ⟨m0, m1⟩ := hm
  clear hT
  go_enter Tryz.func8, Tryz.ntmps8
  go_wp2_with fail
  refine HN.out.mono ?_; rintro e w1 ⟨b, rfl, hh⟩
  obtain ⟨O1, A1, hS1, hA1, hb1⟩ := hh.out
  have HS1 := hid hS1
  have HA1 := hid hA1
  have HW1 := hid hb1
  clear hh hS1 hA1 hb1 HN
  by_cases c0 : 1024 < (k.length : Int)
  · go_wp2_with fail
    refine (HAl.out _ HW1.out).mono ?_; rintro e w9 ⟨rfl, hh⟩
    have HW9 := hid (HW1.out.trans (hh.out.mono HW1.out.size))
    clear hh
    go_wp2_with fail
    go_ret
    exact ⟨rfl, HW9.out⟩
  replace c0 : (k.length : Int) ≤ 1024 := by omega
  by_cases c1 : n < 1
  · go_wp2_with fail
    refine (HAl.out _ HW1.out).mono ?_; rintro e w9 ⟨rfl, hh⟩
    have HW9 := hid (HW1.out.trans (hh.out.mono HW1.out.size))
    clear hh
    go_wp2_with fail
    go_ret
    exact ⟨rfl, HW9.out⟩
  replace c1 : 1 ≤ n := by omega
  by_cases c2 : 1073741824 < n
  · go_wp2_with fail
    refine (HAl.out _ HW1.out).mono ?_; rintro e w9 ⟨rfl, hh⟩
    have HW9 := hid (HW1.out.trans (hh.out.mono HW1.out.size))
    clear hh
    go_wp2_with fail
    go_ret
    exact ⟨rfl, HW9.out⟩
  replace c2 : n ≤ 1073741824 := by omega
  by_cases c3 : m < 0
  · go_wp2_with fail
    refine (HAl.out _ HW1.out).mono ?_; rintro e w9 ⟨rfl, hh⟩
    have HW9 := hid (HW1.out.trans (hh.out.mono HW1.out.size))
    clear hh
    go_wp2_with fail
    go_ret
    exact ⟨rfl, HW9.out⟩
  replace c3 : 0 ≤ m := by omega
  by_cases c4 : 2147483648 < m
  · go_wp2_with fail
    refine (HAl.out _ HW1.out).mono ?_; rintro e w9 ⟨rfl, hh⟩
    have HW9 := hid (HW1.out.trans (hh.out.mono HW1.out.size))
    clear hh
    go_wp2_with fail
    go_ret
    exact ⟨rfl, HW9.out⟩
  replace c4 : m ≤ 2147483648 := by omega
  have hk : k.length ≤ 1024 := by omega
  have HK := hid hk
  have H7 : Hid (In64 7) := by unfold Hid In64; decide
  have HD1 := hid (do_new HS1.out [nSET, k, [120]] (rowSET nSET k [120] (by kernel_rfl) (by kernel_rfl)) (by show 3 ≤ 64; decide) (txs3 (by decide) hk (by decide)) 7 H7.out)
  have HE1 := hid (ends1 hk)
  have HE2 := hid (ends2 hk c1 c2)
  have HE3 := hid (ends3 (k := k) c1)
  obtain ⟨L4, hE4⟩ := ends4 (k := k) c1 c3 c4
  obtain ⟨V, hV⟩ : ∃ V : Int, V = if m < n then 1 else 0 := ⟨_, rfl⟩
  rw [← hV] at hE4
  have HE4 := hid hE4
  have HV := hid hV
  clear hV
  have HDg := hid (fun W => Num.digits_any n W n0 n1)
  clear hk hE4
  go_wp2_with fail
  refine HD1.out.mono ?_; rintro e w2 ⟨v2, rfl, hh⟩
  obtain ⟨O2, A2, hS2, hu2, -, -, -, -⟩ := hh.out
  rw [HE1.out] at hS2
  obtain ⟨hb2, hA2⟩ := hu2 w.heap.size HA1.out HW1.out.size
  have HW2 := hid (HW1.out.trans hb2)
  have HS2 := hid hS2
  have HA2 := hid hA2
  clear hh hS2 hu2 hb2 hA2 HD1
  go_wp2_with fail
  refine (HDg.out _).mono ?_; rintro e w3 ⟨rfl, hb3⟩
  have HS3 := hid (HS2.out.below hb3)
  have HW3 := hid (HW2.out.trans (hb3.mono HW2.out.size))
  have HD3 := hid (do_new HS3.out [nEXPIRE, k, Lib.itoa n] (rowEXPIRE nEXPIRE k (Lib.itoa n) (by kernel_rfl) (by kernel_rfl)) (by show 3 ≤ 64; decide) (txs3 (by decide) HK.out (by have := itoa_le n n0 n1; omega)) 7 H7.out)
  clear hb3
  go_wp2_with fail
  refine HD3.out.mono ?_; rintro e w4 ⟨v4, rfl, hh⟩
  obtain ⟨O4, A4, hS4, hu4, -, -, -, hr4⟩ := hh.out
  rw [HE2.out] at hS4 hr4
  obtain ⟨d4, p4, q4, -, rfl, -, -⟩ := hr4.open
  obtain ⟨hb4, hA4⟩ := hu4 w.heap.size HA2.out HW3.out.size
  have HW4 := hid (HW3.out.trans hb4)
  have hba := below_alloc w4 (.cells #[.int .i64 3, .int .i64 1, txt [], .slice p4 0 q4] 32)
  have HW5 := hid (HW4.out.trans (hba.mono HW4.out.size))
  have HX5 := hid (heap_alloc_new w4 (.cells #[.int .i64 3, .int .i64 1, txt [], .slice p4 0 q4] 32))
  have HN4 : Hid (¬ O4 w4.heap.size) := fun h => by have := (hS4.lt _ (hS4.sub _ h)).2; omega
  have HS5 := hid (hS4.below hba)
  have HA4 := hid hA4
  have HD5 := hid (do_new HS5.out [nTTL, k] (rowTTL nTTL k (by kernel_rfl) (by kernel_rfl)) (by show 2 ≤ 64; decide) (txs2 (by decide) HK.out) 7 H7.out)
  rw [show (w4.alloc (.cells #[.int .i64 3, .int .i64 1, txt [], .slice p4 0 q4] 32)).heap.size = w4.heap.size + 1 by simp] at HD5
  clear hh hS4 hu4 hr4 hb4 hA4 hba HD3
  simp only [wholeR, Re.Rep.kind, Re.Rep.int, Re.Rep.text, Re.Rep.list, List.length_nil] at ⊢
  go_wp2_with fail
  refine HD5.out.mono ?_; rintro e w6 ⟨v6, rfl, hh⟩
  obtain ⟨O6, A6, hS6, hu6, hk6, -, -, hr6⟩ := hh.out
  rw [HE3.out] at hS6 hr6
  obtain ⟨d6, p6, q6, -, rfl, -, -⟩ := hr6.open
  obtain ⟨hb6, hA6⟩ := hu6 w.heap.size HA4.out (Nat.le_trans HW5.out.size (by simp))
  have HW6 := hid (HW5.out.trans hb6)
  have hx6 := (hk6 w4.heap.size (by omega) HN4.out).1.trans HX5.out
  have hba := below_alloc w6 (.cells #[.int .i64 3, .int .i64 n, txt [], .slice p6 0 q6] 32)
  have HW7 := hid (HW6.out.trans (hba.mono HW6.out.size))
  have HX7 := hid ((hba.block w4.heap.size (Array.getElem?_eq_some_iff.1 hx6).1).trans hx6)
  have HY7 := hid (heap_alloc_new w6 (.cells #[.int .i64 3, .int .i64 n, txt [], .slice p6 0 q6] 32))
  have HN6 : Hid (¬ O6 w6.heap.size ∧ ¬ O6 w4.heap.size) := ⟨fun h => by have := (hS6.lt _ (hS6.sub _ h)).2; omega, (hk6 w4.heap.size (by omega) HN4.out).2⟩
  have HS7 := hid (hS6.below hba)
  have HA6 := hid hA6
  have HD7 := hid (do_new HS7.out [nEXISTS, k] (rowEXISTS nEXISTS [k] (by simp) (by kernel_rfl) (by kernel_rfl)) (by show 2 ≤ 64; decide) (txs2 (by decide) HK.out) (7 + m) (by unfold In64; omega))
  rw [show (w6.alloc (.cells #[.int .i64 3, .int .i64 n, txt [], .slice p6 0 q6] 32)).heap.size = w6.heap.size + 1 by simp] at HD7
  have HZ6 : Hid (w4.heap.size < w6.heap.size + 1) := by have := (Array.getElem?_eq_some_iff.1 hx6).1; show _ < _; omega
  clear hh hS6 hu6 hk6 hr6 hb6 hA6 hx6 hba HD5
  simp only [wholeR, Re.Rep.kind, Re.Rep.int, Re.Rep.text, Re.Rep.list, List.length_nil] at ⊢
  go_wp2_with fail
  refine HD7.out.mono ?_; rintro e w8 ⟨v8, rfl, hh⟩
  obtain ⟨O8, A8, hS8, hu8, hk8, -, -, hr8⟩ := hh.out
  rw [HE4.out] at hS8 hr8
  obtain ⟨d8, p8, q8, -, rfl, -, -⟩ := hr8.open
  obtain ⟨hb8, hA8⟩ := hu8 w.heap.size HA6.out (Nat.le_trans HW7.out.size (by simp))
  have HW8 := hid (HW7.out.trans hb8)
  have hx8 := (hk8 w4.heap.size HZ6.out HN6.out.2).1.trans HX7.out
  have hy8 := (hk8 w6.heap.size (by omega) HN6.out.1).1.trans HY7.out
  have hba := below_alloc w8 (.cells #[.int .i64 3, .int .i64 V, txt [], .slice p8 0 q8] 32)
  have HW9 := hid (HW8.out.trans (hba.mono HW8.out.size))
  have HX9 := hid ((hba.block w4.heap.size (Array.getElem?_eq_some_iff.1 hx8).1).trans hx8)
  have HY9 := hid ((hba.block w6.heap.size (Array.getElem?_eq_some_iff.1 hy8).1).trans hy8)
  have HZ9 := hid (heap_alloc_new w8 (.cells #[.int .i64 3, .int .i64 V, txt [], .slice p8 0 q8] 32))
  have HXl := hid (Array.getElem?_eq_some_iff.1 HX9.out).1
  have HYl := hid (Array.getElem?_eq_some_iff.1 HY9.out).1
  have HZl := hid (Array.getElem?_eq_some_iff.1 HZ9.out).1
  clear hh hS8 hu8 hk8 hr8 hb8 hA8 hx8 hy8 hba HD7
  simp only [wholeR, Re.Rep.kind, Re.Rep.int, Re.Rep.text, Re.Rep.list, List.length_nil] at ⊢
  by_cases hmn : m < n
  · obtain rfl : V = 1 := HV.out.trans (if_pos hmn)
    clear HV HE4
    go_wp2_with fail
    refine (HAl.out _ HW9.out).mono ?_; rintro e w10 ⟨rfl, hh⟩
    have HW10 := hid (HW9.out.trans (hh.out.mono HW9.out.size))
    have hX := (hh.out.block w4.heap.size HXl.out).trans HX9.out
    have hY := (hh.out.block w6.heap.size HYl.out).trans HY9.out
    have hZ := (hh.out.block w8.heap.size HZl.out).trans HZ9.out
    have x1 := (cell_of_row _ _ 1 _ _ _ hX).trans (show _ = some (Value.int .i64 1) from rfl)
    have y1 := (cell_of_row _ _ 1 _ _ _ hY).trans (show _ = some (Value.int .i64 n) from rfl)
    have z0 := (cell_of_row _ _ 0 _ _ _ hZ).trans (show _ = some (Value.int .i64 3) from rfl)
    have z1 := (cell_of_row _ _ 1 _ _ _ hZ).trans rfl
    clear hh hX hY hZ
    go_wp2_with fail
    go_ret
    exact ⟨rfl, HW10.out⟩
  · obtain rfl : V = 0 := HV.out.trans (if_neg hmn)
    clear HV HE4
    go_wp2_with fail
    refine (HAl.out _ HW9.out).mono ?_; rintro e w10 ⟨rfl, hh⟩
    have HW10 := hid (HW9.out.trans (hh.out.mono HW9.out.size))
    have hX := (hh.out.block w4.heap.size HXl.out).trans HX9.out
    have hY := (hh.out.block w6.heap.size HYl.out).trans HY9.out
    have hZ := (hh.out.block w8.heap.size HZl.out).trans HZ9.out
    have x1 := (cell_of_row _ _ 1 _ _ _ hX).trans (show _ = some (Value.int .i64 1) from rfl)
    have y1 := (cell_of_row _ _ 1 _ _ _ hY).trans (show _ = some (Value.int .i64 n) from rfl)
    have z0 := (cell_of_row _ _ 0 _ _ _ hZ).trans (show _ = some (Value.int .i64 3) from rfl)
    have z1 := (cell_of_row _ _ 1 _ _ _ hZ).trans rfl
    clear hh hX hY hZ
    go_wp2_with fail
    go_ret
    exact ⟨rfl, HW10.out⟩

end Go.Proofs.YtcbncdigejjcpaaGreatDoor.Ex
