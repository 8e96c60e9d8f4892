/- Next, what holds at its labels; the label stop. -/
import Derived.Test.YtjcegiponjpjiabDoorKeep
import Derived.Test.YtjcegiponjpjiabDoorWordsP
import Derived.Test.YtjcegiponjpjiabDoorLit
import Derived.WalkMore
namespace Go.Proofs.YtjcegiponjpjiabDoor
open Go.RowKit

/-- what a call of Next tells -/
def Nexted (w w' : World) (o : Option (List (List UInt8))) (e : Int) (v : Value) : Prop := match o with
  | none => v = .tuple #[.slice none 0 0, .bool false, .int .i64 e]
  | some l => ∃ A, v = .tuple #[.slice (some ⟨A, 0, none⟩) l.length l.length, .bool true, .int .i64 0] ∧ w.heap.size ≤ A ∧ w'.rowIs A 9 l.length (textAt l l.length)
/-- .. and leaves behind -/
def NextPost (w : World) (b : Nat) (s0 : List UInt8) (r : Ending) (w' : World) : Prop := ∃ o s' e v, Nxt s0 o s' e ∧ r = .returned v ∧ Hid (Par w' b s' e ∧ Only b w w' ∧ Nexted w w' o e v)
/-- what is told of r is told of s0 -/
def Cont (s0 r : List UInt8) : Prop := ∀ o s' e, Nxt r o s' e → Nxt s0 o s' e
/-- what holds at the labels: 0 stop, 1 command, 2 count, 3 end, 4 argument -/
def At0 (b : Nat) (s0 : List UInt8) (t : Array Value) (W : World) : Prop := ∃ r0 e, Par W b r0 0 ∧ Cont s0 r0 ∧ t[11]? = some (.int .i64 e) ∧ one r0 = .stop e
def At1 (B b : Nat) (s0 : List UInt8) (t : Array Value) (W : World) : Prop := ∃ s r q v5, Par W b s 0 ∧ Cont s0 r ∧ r <:+ s ∧ t[10]? = some (.slice q r.length r.length) ∧ At W q r ∧ t[5]? = some v5 ∧ Args B W v5 []
def At2 (B b : Nat) (s0 : List UInt8) (t : Array Value) (W : World) : Prop := ∃ r0 k p q v5, Par W b r0 0 ∧ Cont s0 r0 ∧ lineAt r0 = some k ∧ r0.head? = some 42 ∧ t[6]? = some (.slice p (k + 1) (k + 1)) ∧ At W p (r0.take (k + 1)) ∧ t[10]? = some (.slice q (r0.length - (k + 1)) (r0.length - (k + 1))) ∧ At W q (r0.drop (k + 1)) ∧ t[5]? = some v5 ∧ Args B W v5 []
def At3 (B b : Nat) (s0 : List UInt8) (t : Array Value) (W : World) : Prop := ∃ r0 r q l v5, Par W b r0 0 ∧ Cont s0 r0 ∧ one r0 = .got l r ∧ t[10]? = some (.slice q r.length r.length) ∧ At W q r ∧ t[5]? = some v5 ∧ Args B W v5 l ∧ l.length ≤ 32
def At4 (B b : Nat) (s0 : List UInt8) (t : Array Value) (W : World) : Prop := ∃ r0 r q acc v5, ∃ many : Nat, Par W b r0 0 ∧ Cont s0 r0 ∧ one r0 = bulks (many - acc.length) acc r ∧ acc.length ≤ many ∧ many ≤ 32 ∧ t[10]? = some (.slice q r.length r.length) ∧ At W q r ∧ t[5]? = some v5 ∧ Args B W v5 acc ∧ t[8]? = some (.int .i64 many)
def Lab (B b : Nat) (s0 : List UInt8) (l : Nat) (t : Array Value) (W : World) : Prop := match l with
  | 0 => At0 b s0 t W
  | 1 => At1 B b s0 t W
  | 2 => At2 B b s0 t W
  | 3 => At3 B b s0 t W
  | 4 => At4 B b s0 t W
  | _ => False
structure J (w : World) (b : Nat) (s0 : List UInt8) (l : Nat) (a : Act) (W : World) : Prop where
  defers : a.defers = []
  size : a.tmps.size = 98
  ptr : a.tmps[0]? = some (.pointer (some ⟨b, 0, none⟩))
  only : Only b w W
  lab : Lab w.heap.size b s0 l a.tmps W
def lenOf : Option Value → Nat
  | some (.slice _ n _) => n
  | _ => 0
def mu (l : Nat) (a : Act) : Nat := match l with
  | 0 => 0
  | 1 => 100 * lenOf a.tmps[10]? + 50
  | 2 => 100 * lenOf a.tmps[10]? + 80
  | 3 => 100 * lenOf a.tmps[10]? + 60
  | _ => 100 * lenOf a.tmps[10]? + 70
/-- by a jump ahead of n, or behind the call -/
abbrev Out (w : World) (b : Nat) (s0 : List UInt8) (n : Nat) : Exit → Act → World → Prop := jumps (fun l a W => J w b s0 l a W ∧ mu l a < n) (bodyPost Tryd.prog Tryd.f12 fun r w' => NextPost w b s0 r w')
set_option maxHeartbeats 1000000 in
set_option maxRecDepth 100000 in
theorem seg0 (w : World) (b : Nat) (s0 : List UInt8) (R c rest : Code) (hc : Tryd.f12.body = some (.seq R (.scope c))) (hf : findLabel c 0 = some rest) (n : Nat) (a : Act) (W : World) (hJ : J w b s0 0 a W) : rest.wp Tryd.prog (Out w b s0 n) a W := by
  have hc' := Option.some.inj ((show Tryd.f12.body = some (.seq _ (.scope _)) from rfl).symm.trans hc)
  injection hc' with _ hc'
  injection hc' with hc'
  subst hc'
  obtain rfl : _ = rest := Option.some.inj ((show findLabel _ 0 = some _ from rfl).symm.trans hf)
  clear hc hf
  obtain ⟨t, d⟩ := a
  obtain ⟨hd, hsz, h0, hO, r0, e, hP, hC, h11, hone⟩ := hJ
  simp only at hd hsz h0 h11
  subst hd
  revert h0 h11
  revert hsz
  revert t
  refine lit98 ?_
  intro u0 u1 u2 u3 u4 u5 u6 u7 u8 u9 u10 u11 u12 u13 u14 u15 u16 u17 u18 u19 u20 u21 u22 u23 u24 u25 u26 u27 u28 u29 u30 u31 u32 u33 u34 u35 u36 u37 u38 u39 u40 u41 u42 u43 u44 u45 u46 u47 u48 u49 u50 u51 u52 u53 u54 u55 u56 u57 u58 u59 u60 u61 u62 u63 u64 u65 u66 u67 u68 u69 u70 u71 u72 u73 u74 u75 u76 u77 u78 u79 u80 u81 u82 u83 u84 u85 u86 u87 u88 u89 u90 u91 u92 u93 u94 u95 u96 u97 h0 h11
  obtain rfl : _ = u0 := (Option.some.inj h0).symm
  obtain rfl : _ = u11 := (Option.some.inj h11).symm
  clear h0 h11
  have HP := hid hP
  have HO := hid hO
  have HC := hid hC
  have HOne := hid hone
  clear hP hO hC hone
  unfold Out
  by_cases he : e = -1
  · subst he
    go_wp2_with fail
    refine (stop_more b W).mono ?_; rintro r w' ⟨rfl, rfl⟩
    go_wp2
    simp only [jumps]
    go_ret3
    exact ⟨none, r0, 0, _, HC.out _ _ _ (.more HOne.out), rfl, HP.out, HO.out, rfl⟩
  · have hPv := HP.out
    obtain ⟨v, hv, _⟩ := hPv
    have HS := hid (stop_any b v 0 e W hv he)
    clear hv
    go_wp2_with fail
    refine HS.out.mono ?_; rintro r w' ⟨rfl, hp, ho⟩
    have HP2 := hid hp
    have HO2 := hid (HO.out.trans ho)
    clear hp ho HS
    go_wp2
    simp only [jumps]
    go_ret3
    exact ⟨none, [], e, _, HC.out _ _ _ (.bad HOne.out he), rfl, ⟨_, HP2.out, Strm.nil _, fun a n c e => by cases e⟩, HO2.out, rfl⟩

end Go.Proofs.YtjcegiponjpjiabDoor
