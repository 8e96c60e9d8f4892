/- A frame of 98 slots, slot by slot. -/
import Derived.Test.YtjcegiponjpjiabDoorJumps
namespace Go.Proofs.YtjcegiponjpjiabDoor
open Go

theorem cons_of {l : List Value} {n : Nat} (h : l.length = n + 1) : ∃ x r, l = x :: r ∧ r.length = n := by
  cases l with
  | nil => simp at h
  | cons x r => exact ⟨x, r, rfl, by simpa using h⟩
set_option maxRecDepth 100000 in
theorem lit98 {P : Array Value → Prop} (k : ∀ u0 u1 u2 u3 u4 u5 u6 u7 u8 u9 u10 u11 u12 u13 u14 u15 u16 u17 u18 u19 u20 u21 u22 u23 u24 u25 u26 u27 u28 u29 u30 u31 u32 u33 u34 u35 u36 u37 u38 u39 u40 u41 u42 u43 u44 u45 u46 u47 u48 u49 u50 u51 u52 u53 u54 u55 u56 u57 u58 u59 u60 u61 u62 u63 u64 u65 u66 u67 u68 u69 u70 u71 u72 u73 u74 u75 u76 u77 u78 u79 u80 u81 u82 u83 u84 u85 u86 u87 u88 u89 u90 u91 u92 u93 u94 u95 u96 u97, P #[u0, u1, u2, u3, u4, u5, u6, u7, u8, u9, u10, u11, u12, u13, u14, u15, u16, u17, u18, u19, u20, u21, u22, u23, u24, u25, u26, u27, u28, u29, u30, u31, u32, u33, u34, u35, u36, u37, u38, u39, u40, u41, u42, u43, u44, u45, u46, u47, u48, u49, u50, u51, u52, u53, u54, u55, u56, u57, u58, u59, u60, u61, u62, u63, u64, u65, u66, u67, u68, u69, u70, u71, u72, u73, u74, u75, u76, u77, u78, u79, u80, u81, u82, u83, u84, u85, u86, u87, u88, u89, u90, u91, u92, u93, u94, u95, u96, u97]) : ∀ t : Array Value, t.size = 98 → P t := by
  intro t h
  obtain ⟨l⟩ := t
  simp only [List.size_toArray] at h
  obtain ⟨u0, r0, rfl, h0⟩ := cons_of h
  obtain ⟨u1, r1, rfl, h1⟩ := cons_of h0
  obtain ⟨u2, r2, rfl, h2⟩ := cons_of h1
  obtain ⟨u3, r3, rfl, h3⟩ := cons_of h2
  obtain ⟨u4, r4, rfl, h4⟩ := cons_of h3
  obtain ⟨u5, r5, rfl, h5⟩ := cons_of h4
  obtain ⟨u6, r6, rfl, h6⟩ := cons_of h5
  obtain ⟨u7, r7, rfl, h7⟩ := cons_of h6
  obtain ⟨u8, r8, rfl, h8⟩ := cons_of h7
  obtain ⟨u9, r9, rfl, h9⟩ := cons_of h8
  obtain ⟨u10, r10, rfl, h10⟩ := cons_of h9
  obtain ⟨u11, r11, rfl, h11⟩ := cons_of h10
  obtain ⟨u12, r12, rfl, h12⟩ := cons_of h11
  obtain ⟨u13, r13, rfl, h13⟩ := cons_of h12
  obtain ⟨u14, r14, rfl, h14⟩ := cons_of h13
  obtain ⟨u15, r15, rfl, h15⟩ := cons_of h14
  obtain ⟨u16, r16, rfl, h16⟩ := cons_of h15
  obtain ⟨u17, r17, rfl, h17⟩ := cons_of h16
  obtain ⟨u18, r18, rfl, h18⟩ := cons_of h17
  obtain ⟨u19, r19, rfl, h19⟩ := cons_of h18
  obtain ⟨u20, r20, rfl, h20⟩ := cons_of h19
  obtain ⟨u21, r21, rfl, h21⟩ := cons_of h20
  obtain ⟨u22, r22, rfl, h22⟩ := cons_of h21
  obtain ⟨u23, r23, rfl, h23⟩ := cons_of h22
  obtain ⟨u24, r24, rfl, h24⟩ := cons_of h23
  obtain ⟨u25, r25, rfl, h25⟩ := cons_of h24
  obtain ⟨u26, r26, rfl, h26⟩ := cons_of h25
  obtain ⟨u27, r27, rfl, h27⟩ := cons_of h26
  obtain ⟨u28, r28, rfl, h28⟩ := cons_of h27
  obtain ⟨u29, r29, rfl, h29⟩ := cons_of h28
  obtain ⟨u30, r30, rfl, h30⟩ := cons_of h29
  obtain ⟨u31, r31, rfl, h31⟩ := cons_of h30
  obtain ⟨u32, r32, rfl, h32⟩ := cons_of h31
  obtain ⟨u33, r33, rfl, h33⟩ := cons_of h32
  obtain ⟨u34, r34, rfl, h34⟩ := cons_of h33
  obtain ⟨u35, r35, rfl, h35⟩ := cons_of h34
  obtain ⟨u36, r36, rfl, h36⟩ := cons_of h35
  obtain ⟨u37, r37, rfl, h37⟩ := cons_of h36
  obtain ⟨u38, r38, rfl, h38⟩ := cons_of h37
  obtain ⟨u39, r39, rfl, h39⟩ := cons_of h38
  obtain ⟨u40, r40, rfl, h40⟩ := cons_of h39
  obtain ⟨u41, r41, rfl, h41⟩ := cons_of h40
  obtain ⟨u42, r42, rfl, h42⟩ := cons_of h41
  obtain ⟨u43, r43, rfl, h43⟩ := cons_of h42
  obtain ⟨u44, r44, rfl, h44⟩ := cons_of h43
  obtain ⟨u45, r45, rfl, h45⟩ := cons_of h44
  obtain ⟨u46, r46, rfl, h46⟩ := cons_of h45
  obtain ⟨u47, r47, rfl, h47⟩ := cons_of h46
  obtain ⟨u48, r48, rfl, h48⟩ := cons_of h47
  obtain ⟨u49, r49, rfl, h49⟩ := cons_of h48
  obtain ⟨u50, r50, rfl, h50⟩ := cons_of h49
  obtain ⟨u51, r51, rfl, h51⟩ := cons_of h50
  obtain ⟨u52, r52, rfl, h52⟩ := cons_of h51
  obtain ⟨u53, r53, rfl, h53⟩ := cons_of h52
  obtain ⟨u54, r54, rfl, h54⟩ := cons_of h53
  obtain ⟨u55, r55, rfl, h55⟩ := cons_of h54
  obtain ⟨u56, r56, rfl, h56⟩ := cons_of h55
  obtain ⟨u57, r57, rfl, h57⟩ := cons_of h56
  obtain ⟨u58, r58, rfl, h58⟩ := cons_of h57
  obtain ⟨u59, r59, rfl, h59⟩ := cons_of h58
  obtain ⟨u60, r60, rfl, h60⟩ := cons_of h59
  obtain ⟨u61, r61, rfl, h61⟩ := cons_of h60
  obtain ⟨u62, r62, rfl, h62⟩ := cons_of h61
  obtain ⟨u63, r63, rfl, h63⟩ := cons_of h62
  obtain ⟨u64, r64, rfl, h64⟩ := cons_of h63
  obtain ⟨u65, r65, rfl, h65⟩ := cons_of h64
  obtain ⟨u66, r66, rfl, h66⟩ := cons_of h65
  obtain ⟨u67, r67, rfl, h67⟩ := cons_of h66
  obtain ⟨u68, r68, rfl, h68⟩ := cons_of h67
  obtain ⟨u69, r69, rfl, h69⟩ := cons_of h68
  obtain ⟨u70, r70, rfl, h70⟩ := cons_of h69
  obtain ⟨u71, r71, rfl, h71⟩ := cons_of h70
  obtain ⟨u72, r72, rfl, h72⟩ := cons_of h71
  obtain ⟨u73, r73, rfl, h73⟩ := cons_of h72
  obtain ⟨u74, r74, rfl, h74⟩ := cons_of h73
  obtain ⟨u75, r75, rfl, h75⟩ := cons_of h74
  obtain ⟨u76, r76, rfl, h76⟩ := cons_of h75
  obtain ⟨u77, r77, rfl, h77⟩ := cons_of h76
  obtain ⟨u78, r78, rfl, h78⟩ := cons_of h77
  obtain ⟨u79, r79, rfl, h79⟩ := cons_of h78
  obtain ⟨u80, r80, rfl, h80⟩ := cons_of h79
  obtain ⟨u81, r81, rfl, h81⟩ := cons_of h80
  obtain ⟨u82, r82, rfl, h82⟩ := cons_of h81
  obtain ⟨u83, r83, rfl, h83⟩ := cons_of h82
  obtain ⟨u84, r84, rfl, h84⟩ := cons_of h83
  obtain ⟨u85, r85, rfl, h85⟩ := cons_of h84
  obtain ⟨u86, r86, rfl, h86⟩ := cons_of h85
  obtain ⟨u87, r87, rfl, h87⟩ := cons_of h86
  obtain ⟨u88, r88, rfl, h88⟩ := cons_of h87
  obtain ⟨u89, r89, rfl, h89⟩ := cons_of h88
  obtain ⟨u90, r90, rfl, h90⟩ := cons_of h89
  obtain ⟨u91, r91, rfl, h91⟩ := cons_of h90
  obtain ⟨u92, r92, rfl, h92⟩ := cons_of h91
  obtain ⟨u93, r93, rfl, h93⟩ := cons_of h92
  obtain ⟨u94, r94, rfl, h94⟩ := cons_of h93
  obtain ⟨u95, r95, rfl, h95⟩ := cons_of h94
  obtain ⟨u96, r96, rfl, h96⟩ := cons_of h95
  obtain ⟨u97, r97, rfl, h97⟩ := cons_of h96
  obtain rfl : r97 = [] := List.eq_nil_of_length_eq_zero h97
  exact k u0 u1 u2 u3 u4 u5 u6 u7 u8 u9 u10 u11 u12 u13 u14 u15 u16 u17 u18 u19 u20 u21 u22 u23 u24 u25 u26 u27 u28 u29 u30 u31 u32 u33 u34 u35 u36 u37 u38 u39 u40 u41 u42 u43 u44 u45 u46 u47 u48 u49 u50 u51 u52 u53 u54 u55 u56 u57 u58 u59 u60 u61 u62 u63 u64 u65 u66 u67 u68 u69 u70 u71 u72 u73 u74 u75 u76 u77 u78 u79 u80 u81 u82 u83 u84 u85 u86 u87 u88 u89 u90 u91 u92 u93 u94 u95 u96 u97

end Go.Proofs.YtjcegiponjpjiabDoor
