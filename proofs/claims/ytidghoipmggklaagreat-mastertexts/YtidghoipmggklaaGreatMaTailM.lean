import Derived.Test.YtidghoipmggklaaGreatMaJeM
section
/- Region 27 of MasterTexts: the task is made. -/
namespace Go.Proofs.YtidghoipmggklaaGreat
open Go.RowKit
attribute [local go_sem] Oper.semAt_some
def regionMt (n : Nat) : Code → Option Code
  | .region m o d => if m == n then some (.region m o d) else none
  | .loop c => regionMt n c
  | .seq a b => match regionMt n a with
    | some c => some c
    | none => regionMt n b
  | .block _ c => regionMt n c
  | .scope c => regionMt n c
  | .cond _ a b => match regionMt n a with
    | some c => some c
    | none => regionMt n b
  | _ => none
set_option maxRecDepth 100000 in
set_option maxHeartbeats 8000000 in
theorem mt_r27 {w x4 : World} {g3 g4 g5 g7 gj : Nat} {t : ByteArray} {vo go po : Option Addr} {m vc gn gc pn pc n1' : Nat} {st se pa n0 n1 n2 : Int} {a0 a1 a2 a3 a4 a5 a6 a7 a8 : Nat} {o : Nat → Option Int} {st2 se2 pa2 : Nat} {G1 : List Vx} {ps : List Int} {s0 s1 s2 s4 s6 s7 s8 s9 s10 s11 s12 s13 s15 s16 s17 s18 s19 s20 s21 s22 s23 s24 s25 s26 s27 s28 s29 s30 s31 s32 s33 s34 s35 s36 s37 s38 s39 s40 s41 s42 s43 s44 s45 s46 s47 s48 s49 s50 s51 s52 s53 s54 s55 s56 s57 s58 s59 s60 s61 s62 s63 s64 s65 s66 s67 s68 s69 s70 s71 s72 s73 s74 s75 s76 s77 s78 s79 s80 s81 s82 s83 s84 s85 s86 s87 s88 s89 s90 s91 s92 s93 s94 s95 s96 s97 s98 s99 s100 s101 s102 s103 s104 s105 s106 s107 s108 s109 s110 s111 s112 s113 s114 s115 s116 s117 s118 s119 s120 s121 s122 s123 s124 s125 s126 s127 s128 s129 s130 s131 s132 s133 s134 s135 s136 s137 s138 s139 s140 s141 s142 s143 s144 s145 s146 s147 s148 s149 s150 s151 s152 s153 s154 s155 s156 s157 s158 s159 s160 s161 s162 s163 s164 s165 s166 s167 s168 s169 s170 s171 s172 s173 s174 s175 s176 s177 s178 s179 s180 s181 s182 s183 s184 s185 s186 s187 s188 s189 s190 s191 s192 s193 s194 s195 s196 s197 s198 s199 s200 s201 s202 s203 s204 s205 s206 s207 s208 s209 s210 s211 s212 s213 s214 s215 s216 s217 s218 s219 s220 s221 s222 s223 s224 s225 s226 s227 s228 s229 s230 s231 s232 s233 s234 s235 s236 s237 s238 s239 s240 s241 s242 s243 s244 s245 s246 s247 : Value} {K : Act → World → Prop} {Q' : Exit → Act → World → Prop}
    (HM4 : Hid (MtI w x4 g3 g4 g5 g7 #[.int .i64 (a0 : Nat), .int .i64 (a1 : Nat), .int .i64 (a2 : Nat), .int .i64 (a3 : Nat), .int .i64 (a4 : Nat), .int .i64 (a5 : Nat), .int .i64 (a6 : Nat), .int .i64 (a7 : Nat), .int .i64 (a8 : Nat), .bool (oh o 0), .bool (oh o 1), .bool (oh o 2), .bool (oh o 3), .bool (oh o 4), .int .i64 (ov o 0), .int .i64 (ov o 1), .int .i64 (ov o 2), .int .i64 (ov o 3), .int .i64 (ov o 4), .slice vo m vc] #[.string t, .slice go gn gc, .slice po pn pc, .int .i64 st, .int .i64 se, .int .i64 pa] #[.int .i64 n0, .int .i64 n1, .int .i64 n2])) (HJ4 : Hid (x4.heap[gj]? = some (.cells #[.string t, .slice go n1' gc, .slice po pn pc, .int .i64 (st2 : Nat), .int .i64 (se2 : Nat), .int .i64 (pa2 : Nat)] 27 (0, 0)))) (HJc : Hid (JbIn w go po n1' gc pn G1 ps))
    (HC : ∀ (W : World) (gt q5 q6 b0 b1 b2 c0 c1 c2 : Nat) (kp : Bool) (u151 u152 u153 u154 u155 u156 u157 u158 u159 u160 u161 u162 u163 u164 u165 u166 u167 u168 u169 u170 u171 u172 u173 u174 u175 u176 u177 u178 : Value), Nums b0 b1 b2 c0 c1 c2 → MtK w W gt #[.int .i64 (b0 : Nat), .int .i64 (b1 : Nat), .int .i64 (b2 : Nat), .int .i64 2, .slice (some ⟨q5, 0, none⟩) 1 1, .slice (some ⟨q6, 0, none⟩) 2 2, .string t, .slice go n1' gc, .slice po pn pc, .int .i64 (st2 : Nat), .int .i64 (se2 : Nat), .int .i64 (pa2 : Nat), .bool (oh o 0), .bool (oh o 1), .bool (oh o 2), .bool (oh o 3), .bool (oh o 4), .int .i64 (ov o 0), .int .i64 (ov o 1), .int .i64 (ov o 2), .int .i64 (ov o 3), .int .i64 (ov o 4), .int .i64 5, .int .i64 4, .int .i64 1, .bool kp] (some ⟨q5, 0, none⟩) (some ⟨q6, 0, none⟩) go po c0 c1 c2 G1 ps → K ⟨#[s0, s1, s2, .pointer (some ⟨g3, 0, none⟩), s4, .pointer (some ⟨g5, 0, none⟩), s6, s7, s8, s9, s10, s11, s12, s13, .pointer (some ⟨gj, 0, none⟩), .pointer (some ⟨gt, 0, none⟩), s16, s17, s18, s19, s20, s21, s22, s23, s24, s25, s26, s27, s28, s29, s30, s31, s32, s33, s34, s35, s36, s37, s38, s39, s40, s41, s42, s43, s44, s45, s46, s47, s48, s49, s50, s51, s52, s53, s54, s55, s56, s57, s58, s59, s60, s61, s62, s63, s64, s65, s66, s67, s68, s69, s70, s71, s72, s73, s74, s75, s76, s77, s78, s79, s80, s81, s82, s83, s84, s85, s86, s87, s88, s89, s90, s91, s92, s93, s94, s95, s96, s97, s98, s99, s100, s101, s102, s103, s104, s105, s106, s107, s108, s109, s110, s111, s112, s113, s114, s115, s116, s117, s118, s119, s120, s121, s122, s123, s124, s125, s126, s127, s128, s129, s130, s131, s132, s133, s134, s135, s136, s137, s138, s139, s140, s141, s142, s143, s144, s145, s146, s147, s148, s149, s150, u151, u152, u153, u154, u155, u156, u157, u158, u159, u160, u161, u162, u163, u164, u165, u166, u167, u168, u169, u170, u171, u172, u173, u174, u175, u176, u177, u178, s179, s180, s181, s182, s183, s184, s185, s186, s187, s188, s189, s190, s191, s192, s193, s194, s195, s196, s197, s198, s199, s200, s201, s202, s203, s204, s205, s206, s207, s208, s209, s210, s211, s212, s213, s214, s215, s216, s217, s218, s219, s220, s221, s222, s223, s224, s225, s226, s227, s228, s229, s230, s231, s232, s233, s234, s235, s236, s237, s238, s239, s240, s241, s242, s243, s244, s245, s246, s247], []⟩ W) :
    Code.wp Tryz.prog ((Tryz.f7.body.bind (regionMt 27)).getD .skip) (Exit.then K Q') ⟨#[s0, s1, s2, .pointer (some ⟨g3, 0, none⟩), s4, .pointer (some ⟨g5, 0, none⟩), s6, s7, s8, s9, s10, s11, s12, s13, .pointer (some ⟨gj, 0, none⟩), s15, s16, s17, s18, s19, s20, s21, s22, s23, s24, s25, s26, s27, s28, s29, s30, s31, s32, s33, s34, s35, s36, s37, s38, s39, s40, s41, s42, s43, s44, s45, s46, s47, s48, s49, s50, s51, s52, s53, s54, s55, s56, s57, s58, s59, s60, s61, s62, s63, s64, s65, s66, s67, s68, s69, s70, s71, s72, s73, s74, s75, s76, s77, s78, s79, s80, s81, s82, s83, s84, s85, s86, s87, s88, s89, s90, s91, s92, s93, s94, s95, s96, s97, s98, s99, s100, s101, s102, s103, s104, s105, s106, s107, s108, s109, s110, s111, s112, s113, s114, s115, s116, s117, s118, s119, s120, s121, s122, s123, s124, s125, s126, s127, s128, s129, s130, s131, s132, s133, s134, s135, s136, s137, s138, s139, s140, s141, s142, s143, s144, s145, s146, s147, s148, s149, s150, s151, s152, s153, s154, s155, s156, s157, s158, s159, s160, s161, s162, s163, s164, s165, s166, s167, s168, s169, s170, s171, s172, s173, s174, s175, s176, s177, s178, s179, s180, s181, s182, s183, s184, s185, s186, s187, s188, s189, s190, s191, s192, s193, s194, s195, s196, s197, s198, s199, s200, s201, s202, s203, s204, s205, s206, s207, s208, s209, s210, s211, s212, s213, s214, s215, s216, s217, s218, s219, s220, s221, s222, s223, s224, s225, s226, s227, s228, s229, s230, s231, s232, s233, s234, s235, s236, s237, s238, s239, s240, s241, s242, s243, s244, s245, s246, s247], []⟩ x4 := by
  have HH : Hid _ := HC
  clear HC
  refine wp_mono (Q := Exit.then K (fun _ _ _ => False)) ?_ (fun e a' w' hq => ?_)
  rotate_left
  · cases e with
    | normal => exact hq
    | exit id => exact hq.elim
    | goto l => exact hq.elim
    | ret => exact hq.elim
    | panic ch => exact hq.elim
    | outgrown => exact hq.elim
  conv => arg 2; whnf
  have d0 : x4.cell? ⟨g5, 0, none⟩ = some (.int .i64 n0) := by simp [World.cell?, HM4.out.b5]
  have d1 : x4.cell? ⟨g5, 1, none⟩ = some (.int .i64 n1) := by simp [World.cell?, HM4.out.b5]
  have d2 : x4.cell? ⟨g5, 2, none⟩ = some (.int .i64 n2) := by simp [World.cell?, HM4.out.b5]
  go_wp2_with (first
    | (refine mt_build1 rfl (.tmp 162) rfl (bits BinOp.and IntKind.i64 n0 7) rfl ?_; intro W5 hW5; have q1 : Below x4.heap.size x4 W5 := (by rw [← hW5]; exact ma_new _ _); have HM5 : Hid _ := HM4.out.new q1; have HJ5 : Hid (W5.heap[gj]? = _) := (q1.block gj (ma_lt HJ4.out)).trans HJ4.out; have HW5 : Hid _ := hW5; clear hW5 d0 d1 d2 q1; have d1 : W5.cell? ⟨g5, 1, none⟩ = some (.int .i64 n1) := (by simp [World.cell?, HM5.out.b5]); have d2 : W5.cell? ⟨g5, 2, none⟩ = some (.int .i64 n2) := (by simp [World.cell?, HM5.out.b5]))
    | (refine mt_build2 rfl (.tmp 166) (.tmp 169) rfl (bits BinOp.and IntKind.i64 n1 7) (bits BinOp.and IntKind.i64 n2 7) rfl rfl ?_; intro W6 hW6; have q2 : Below W5.heap.size W5 W6 := (by rw [← hW6]; exact ma_new _ _); have HM6 : Hid _ := HM5.out.new q2; have HJ6 : Hid (W6.heap[gj]? = _) := (q2.block gj (ma_lt HJ5.out)).trans HJ5.out; have HW6 : Hid _ := hW6; clear hW6 d1 d2 q2; have d0 : W6.cell? ⟨g5, 0, none⟩ = some (.int .i64 n0) := (by simp [World.cell?, HM6.out.b5]))
    | (refine wpList_load_row rfl 27 _ rfl gj rfl 27 #[.string t, .slice go n1' gc, .slice po pn pc, .int .i64 (st2 : Nat), .int .i64 (se2 : Nat), .int .i64 (pa2 : Nat)] (0, 0) _ HJ6.out Tryz.underlying27 rfl size_jobJ ?_)
    | (refine wpList_load_mid rfl 54 _ rfl g3 9 rfl [.bool (oh o 0), .bool (oh o 1), .bool (oh o 2), .bool (oh o 3), .bool (oh o 4), .int .i64 (ov o 0), .int .i64 (ov o 1), .int .i64 (ov o 2), .int .i64 (ov o 3), .int .i64 (ov o 4)] _ (mt_range HM6.out.b3) Tryz.underlying54 rfl size_ag ?_)
    | (refine mt_buildT rfl _ rfl [(0, .int .i64 (bits BinOp.and IntKind.i64 n0 63)), (1, .int .i64 (bits BinOp.and IntKind.i64 n1 63)), (2, .int .i64 (bits BinOp.and IntKind.i64 n2 63)), (3, .int .i64 2), (4, .slice (some ⟨x4.heap.size, 0, none⟩) 1 1), (5, .slice (some ⟨W5.heap.size, 0, none⟩) 2 2), (6, .agg #[.string t, .slice go n1' gc, .slice po pn pc, .int .i64 (st2 : Nat), .int .i64 (se2 : Nat), .int .i64 (pa2 : Nat)]), (7, .agg #[.bool (oh o 0), .bool (oh o 1), .bool (oh o 2), .bool (oh o 3), .bool (oh o 4), .int .i64 (ov o 0), .int .i64 (ov o 1), .int .i64 (ov o 2), .int .i64 (ov o 3), .int .i64 (ov o 4)]), (8, .int .i64 5), (9, .int .i64 4), (10, .int .i64 1), (11, .bool (n0.tmod 2 == 0))] tk_built rfl ?_)
    | (refine wpList_store_row rfl 69 _ _ rfl W6.heap.size #[.int .i64 (bits BinOp.and IntKind.i64 n0 63), .int .i64 (bits BinOp.and IntKind.i64 n1 63), .int .i64 (bits BinOp.and IntKind.i64 n2 63), .int .i64 2, .slice (some ⟨x4.heap.size, 0, none⟩) 1 1, .slice (some ⟨W5.heap.size, 0, none⟩) 2 2, .string t, .slice go n1' gc, .slice po pn pc, .int .i64 (st2 : Nat), .int .i64 (se2 : Nat), .int .i64 (pa2 : Nat), .bool (oh o 0), .bool (oh o 1), .bool (oh o 2), .bool (oh o 3), .bool (oh o 4), .int .i64 (ov o 0), .int .i64 (ov o 1), .int .i64 (ov o 2), .int .i64 (ov o 3), .int .i64 (ov o 4), .int .i64 5, .int .i64 4, .int .i64 1, .bool (n0.tmod 2 == 0)] rfl rfl 69 #[.int .i64 0, .int .i64 0, .int .i64 0, .int .i64 0, .slice none 0 0, .slice none 0 0, .string ⟨#[]⟩, .slice none 0 0, .slice none 0 0, .int .i64 0, .int .i64 0, .int .i64 0, .bool false, .bool false, .bool false, .bool false, .bool false, .int .i64 0, .int .i64 0, .int .i64 0, .int .i64 0, .int .i64 0, .int .i64 0, .int .i64 0, .int .i64 0, .bool false] (heap_alloc_new W6 _) size_tskT rfl (by simp [Value.oneCell']) ?_))
  generalize hW7 : World.setRow _ _ _ = W7
  obtain ⟨b0, hb0, e0⟩ := and63 n0
  obtain ⟨b1, hb1, e1⟩ := and63 n1
  obtain ⟨b2, hb2, e2⟩ := and63 n2
  obtain ⟨c0, hc0, f0⟩ := and7t n0
  obtain ⟨c1, hc1, f1⟩ := and7t n1
  obtain ⟨c2, hc2, f2⟩ := and7t n2
  have h5 := HW5.out
  have h6 := HW6.out
  rw [f0] at h5
  rw [f1, f2] at h6
  rw [e0, e1, e2] at hW7
  exact HH.out _ _ _ _ b0 b1 b2 c0 c1 c2 _ _ _ _ _ _ _ _ _ _ _ _ _ _ _ _ _ _ _ _ _ _ _ _ _ _ _ _ _ ⟨hb0, hb1, hb2, hc0, hc1, hc2⟩ (MtK.made HM4.out.lo HJc.out h5 h6 hW7)
end Go.Proofs.YtidghoipmggklaaGreat
end

section
/- Regions 28 to 34 of MasterTexts and its return: the task is put, taken, put again and held against the first. -/
namespace Go.Proofs.YtidghoipmggklaaGreat
open Go.RowKit
attribute [local go_sem] Oper.semAt_some eq_same_h eq_same_v
/-- The code from a region on. -/
def tailMt (n : Nat) : Code → Option Code
  | .seq (.region m o d) b => if m == n then some (.seq (.region m o d) b) else tailMt n b
  | .seq _ b => tailMt n b
  | _ => none
set_option linter.unusedVariables false in
set_option linter.unusedSimpArgs false in
set_option maxRecDepth 100000 in
set_option maxHeartbeats 16000000 in
theorem mt_tail {w W7 : World} {gt q5 q6 b0 b1 b2 c0 c1 c2 : Nat} {kp : Bool} {t : ByteArray} {go po : Option Addr} {gc pn pc n1' : Nat} {o : Nat → Option Int} {st2 se2 pa2 : Nat} {G1 : List Vx} {ps : List Int} {s0 s1 s2 s3 s4 s5 s6 s7 s8 s9 s10 s11 s12 s13 s14 s16 s17 s18 s19 s20 s21 s22 s23 s24 s25 s26 s27 s28 s29 s30 s31 s32 s33 s34 s35 s36 s37 s38 s39 s40 s41 s42 s43 s44 s45 s46 s47 s48 s49 s50 s51 s52 s53 s54 s55 s56 s57 s58 s59 s60 s61 s62 s63 s64 s65 s66 s67 s68 s69 s70 s71 s72 s73 s74 s75 s76 s77 s78 s79 s80 s81 s82 s83 s84 s85 s86 s87 s88 s89 s90 s91 s92 s93 s94 s95 s96 s97 s98 s99 s100 s101 s102 s103 s104 s105 s106 s107 s108 s109 s110 s111 s112 s113 s114 s115 s116 s117 s118 s119 s120 s121 s122 s123 s124 s125 s126 s127 s128 s129 s130 s131 s132 s133 s134 s135 s136 s137 s138 s139 s140 s141 s142 s143 s144 s145 s146 s147 s148 s149 s150 s151 s152 s153 s154 s155 s156 s157 s158 s159 s160 s161 s162 s163 s164 s165 s166 s167 s168 s169 s170 s171 s172 s173 s174 s175 s176 s177 s178 s179 s180 s181 s182 s183 s184 s185 s186 s187 s188 s189 s190 s191 s192 s193 s194 s195 s196 s197 s198 s199 s200 s201 s202 s203 s204 s205 s206 s207 s208 s209 s210 s211 s212 s213 s214 s215 s216 s217 s218 s219 s220 s221 s222 s223 s224 s225 s226 s227 s228 s229 s230 s231 s232 s233 s234 s235 s236 s237 s238 s239 s240 s241 s242 s243 s244 s245 s246 s247 : Value} {K : Act → World → Prop} {Q : Exit → Act → World → Prop}
    (hK : ∀ (a : Act) (w : World), Code.wp Tryz.prog ((Tryz.f7.body.bind (tailMt 28)).getD .skip) Q a w → K a w)
    (HK7 : Hid (MtK w W7 gt #[.int .i64 (b0 : Nat), .int .i64 (b1 : Nat), .int .i64 (b2 : Nat), .int .i64 2, .slice (some ⟨q5, 0, none⟩) 1 1, .slice (some ⟨q6, 0, none⟩) 2 2, .string t, .slice go n1' gc, .slice po pn pc, .int .i64 (st2 : Nat), .int .i64 (se2 : Nat), .int .i64 (pa2 : Nat), .bool (oh o 0), .bool (oh o 1), .bool (oh o 2), .bool (oh o 3), .bool (oh o 4), .int .i64 (ov o 0), .int .i64 (ov o 1), .int .i64 (ov o 2), .int .i64 (ov o 3), .int .i64 (ov o 4), .int .i64 5, .int .i64 4, .int .i64 1, .bool kp] (some ⟨q5, 0, none⟩) (some ⟨q6, 0, none⟩) go po c0 c1 c2 G1 ps)) (HJc : Hid (JbIn w go po n1' gc pn G1 ps)) (HNb : Hid (Nums b0 b1 b2 c0 c1 c2)) (HOk : Hid (OkO o)) (HCo : Hid (cutO o 5 = o)) (HJn : Hid (jobN t G1 ps st2 se2 pa2 = 0))
    (HQ : ∀ (W : World) (u16 u17 u18 u19 u179 u180 u181 u182 u183 u184 u185 u186 u187 u188 u189 u190 u191 u192 u193 u194 u195 u196 u197 u198 u199 u200 u201 u202 u203 u204 u205 u206 u207 u208 u209 u210 u211 u212 u213 u214 u215 u216 u217 u218 u219 u220 u221 u222 u223 u224 u225 u226 u227 u228 u229 u230 u231 u232 u233 u234 u235 u236 u237 u238 u239 u240 u241 u242 u243 u244 u245 u246 u247 : Value), Below w.heap.size w W → Q .ret ⟨#[s0, s1, s2, s3, s4, s5, .bool true, s7, s8, s9, s10, s11, s12, s13, s14, .pointer (some ⟨gt, 0, none⟩), u16, u17, u18, u19, s20, s21, s22, s23, s24, s25, s26, s27, s28, s29, s30, s31, s32, s33, s34, s35, s36, s37, s38, s39, s40, s41, s42, s43, s44, s45, s46, s47, s48, s49, s50, s51, s52, s53, s54, s55, s56, s57, s58, s59, s60, s61, s62, s63, s64, s65, s66, s67, s68, s69, s70, s71, s72, s73, s74, s75, s76, s77, s78, s79, s80, s81, s82, s83, s84, s85, s86, s87, s88, s89, s90, s91, s92, s93, s94, s95, s96, s97, s98, s99, s100, s101, s102, s103, s104, s105, s106, s107, s108, s109, s110, s111, s112, s113, s114, s115, s116, s117, s118, s119, s120, s121, s122, s123, s124, s125, s126, s127, s128, s129, s130, s131, s132, s133, s134, s135, s136, s137, s138, s139, s140, s141, s142, s143, s144, s145, s146, s147, s148, s149, s150, s151, s152, s153, s154, s155, s156, s157, s158, s159, s160, s161, s162, s163, s164, s165, s166, s167, s168, s169, s170, s171, s172, s173, s174, s175, s176, s177, s178, u179, u180, u181, u182, u183, u184, u185, u186, u187, u188, u189, u190, u191, u192, u193, u194, u195, u196, u197, u198, u199, u200, u201, u202, u203, u204, u205, u206, u207, u208, u209, u210, u211, u212, u213, u214, u215, u216, u217, u218, u219, u220, u221, u222, u223, u224, u225, u226, u227, u228, u229, u230, u231, u232, u233, u234, u235, u236, u237, u238, u239, u240, u241, u242, u243, u244, u245, u246, u247], []⟩ W) : K ⟨#[s0, s1, s2, s3, s4, s5, s6, s7, s8, s9, s10, s11, s12, s13, s14, .pointer (some ⟨gt, 0, none⟩), s16, s17, s18, s19, s20, s21, s22, s23, s24, s25, s26, s27, s28, s29, s30, s31, s32, s33, s34, s35, s36, s37, s38, s39, s40, s41, s42, s43, s44, s45, s46, s47, s48, s49, s50, s51, s52, s53, s54, s55, s56, s57, s58, s59, s60, s61, s62, s63, s64, s65, s66, s67, s68, s69, s70, s71, s72, s73, s74, s75, s76, s77, s78, s79, s80, s81, s82, s83, s84, s85, s86, s87, s88, s89, s90, s91, s92, s93, s94, s95, s96, s97, s98, s99, s100, s101, s102, s103, s104, s105, s106, s107, s108, s109, s110, s111, s112, s113, s114, s115, s116, s117, s118, s119, s120, s121, s122, s123, s124, s125, s126, s127, s128, s129, s130, s131, s132, s133, s134, s135, s136, s137, s138, s139, s140, s141, s142, s143, s144, s145, s146, s147, s148, s149, s150, s151, s152, s153, s154, s155, s156, s157, s158, s159, s160, s161, s162, s163, s164, s165, s166, s167, s168, s169, s170, s171, s172, s173, s174, s175, s176, s177, s178, s179, s180, s181, s182, s183, s184, s185, s186, s187, s188, s189, s190, s191, s192, s193, s194, s195, s196, s197, s198, s199, s200, s201, s202, s203, s204, s205, s206, s207, s208, s209, s210, s211, s212, s213, s214, s215, s216, s217, s218, s219, s220, s221, s222, s223, s224, s225, s226, s227, s228, s229, s230, s231, s232, s233, s234, s235, s236, s237, s238, s239, s240, s241, s242, s243, s244, s245, s246, s247], []⟩ W7 := by
  have HH : Hid _ := HQ
  clear HQ
  refine hK _ _ ?_
  clear hK
  conv => arg 2; whnf
  obtain ⟨l2, hl2⟩ : ∃ l2, tkB b0 b1 b2 c0 c1 c2 kp o t G1 ps st2 se2 pa2 = l2 := ⟨_, rfl⟩
  have HL2 : Hid (tkB b0 b1 b2 c0 c1 c2 kp o t G1 ps st2 se2 pa2 = l2) := hl2
  clear hl2
  as_aux_lemma =>
  go_upto_region 29 with (go_at_call 13; refine (newwriter_any _).mono ?_; rintro r w8 ⟨rfl, hw8, hb8⟩; have HW8 : Hid (Wr w8 (W7.heap.size + 1) W7.heap.size (.slice none 0 0) []) := hw8; have HB8 : Hid (Below W7.heap.size W7 w8) := hb8; clear hw8 hb8)
  have HK8 : Hid _ := HK7.out.new HB8.out
  have hPut := put_tk (ac := 1) (bc := 2) (gc := gc) (pc := pc) HJc.out.hgn HJc.out.hpn HW8.out (HK7.out.pt.new HB8.out (fun k _ h => h)) HNb.out HOk.out HJc.out.ok HJc.out.pk HJn.out (kp := kp)
  rw [HL2.out] at hPut
  have HPut : Hid _ := hPut
  clear hPut
  as_aux_lemma =>
  go_upto_region 30 with (first
    | (refine wpList_load_row rfl 69 _ rfl gt rfl 69 #[.int .i64 (b0 : Nat), .int .i64 (b1 : Nat), .int .i64 (b2 : Nat), .int .i64 2, .slice (some ⟨q5, 0, none⟩) 1 1, .slice (some ⟨q6, 0, none⟩) 2 2, .string t, .slice go n1' gc, .slice po pn pc, .int .i64 (st2 : Nat), .int .i64 (se2 : Nat), .int .i64 (pa2 : Nat), .bool (oh o 0), .bool (oh o 1), .bool (oh o 2), .bool (oh o 3), .bool (oh o 4), .int .i64 (ov o 0), .int .i64 (ov o 1), .int .i64 (ov o 2), .int .i64 (ov o 3), .int .i64 (ov o 4), .int .i64 5, .int .i64 4, .int .i64 1, .bool kp] (0, 0) _ HK8.out.bx Tryz.underlying69 rfl size_tskT ?_)
    | (go_at_call 40; refine Calls.mono HPut.out ?_; rintro r w9 ⟨rfl, e1⟩; have HTo : Hid (WTo w8 w9 (W7.heap.size + 1) W7.heap.size (.slice none 0 0) l2) := e1; clear e1))
  have HB9 : Hid (Below W7.heap.size W7 w9) := WTo.new HB8.out HW8.out HTo.out (Nat.le_refl _) (Nat.le_succ _)
  have HK9 : Hid _ := HK7.out.new HB9.out
  obtain ⟨v9, hw9, _, _⟩ := HTo.out
  have HW9 : Hid (Wr w9 (W7.heap.size + 1) W7.heap.size v9 l2) := hw9
  have HLe2 : Hid (l2.length ≤ 61000) := by show _ ≤ _; rw [← HL2.out]; exact tk_len HNb.out HOk.out HJc.out.ok HJc.out.pk HJn.out
  clear HW8 HB8 HPut HK7 HK8 HB9 HTo hw9
  generalize W7.heap.size = z at HW9 ⊢
  have hcat : ¬ 9223372036854775807 < (str l2).size + (ByteArray.mk #[120]).size := by rw [str_size]; have := HLe2.out; have : (ByteArray.mk #[120]).size = 1 := rfl; omega
  as_aux_lemma =>
  go_upto_region 31 with (first
    | (go_at_call 16; refine (wall_any HW9.out).mono ?_; rintro r wD ⟨rfl, hwD⟩; subst hwD)
    | (go_at_call 15; refine (newreader_any _ _).mono ?_; rintro r wA ⟨rfl, hrA, hbA⟩; have HRA : Hid (Rd wA wD.heap.size (str l2 ++ ⟨#[120]⟩) ((0 : Nat) : Int) 0) := hrA; have HBA : Hid (Below wD.heap.size wD wA) := hbA; clear hrA hbA))
  clear hcat
  as_aux_lemma =>
  go_upto_region 32 with (first
    | (go_at_call 41; refine Calls.mono (take_tk HNb.out HOk.out HCo.out HJc.out.ok HJc.out.pk HJn.out HL2.out HRA.out) ?_; rintro r wB ⟨⟨ao, ac, bo, bc, ho, hcp, qo, qc, rfl, hP5⟩, hR5, hF5⟩; have HP5 : Hid _ := hP5; have HR5 : Hid _ := hR5; have HF5 : Hid _ := hF5; clear hP5 hR5 hF5)
    | (refine wpList_store_row rfl 69 _ _ rfl wB.heap.size #[.int .i64 (b0 : Nat), .int .i64 (b1 : Nat), .int .i64 (b2 : Nat), .int .i64 2, .slice ao 1 ac, .slice bo 2 bc, .string t, .slice ho G1.length hcp, .slice qo ps.length qc, .int .i64 (st2 : Nat), .int .i64 (se2 : Nat), .int .i64 (pa2 : Nat), .bool (oh o 0), .bool (oh o 1), .bool (oh o 2), .bool (oh o 3), .bool (oh o 4), .int .i64 (ov o 0), .int .i64 (ov o 1), .int .i64 (ov o 2), .int .i64 (ov o 3), .int .i64 (ov o 4), .int .i64 5, .int .i64 4, .int .i64 1, .bool kp] rfl rfl 69 #[.int .i64 0, .int .i64 0, .int .i64 0, .int .i64 0, .slice none 0 0, .slice none 0 0, .string ⟨#[]⟩, .slice none 0 0, .slice none 0 0, .int .i64 0, .int .i64 0, .int .i64 0, .bool false, .bool false, .bool false, .bool false, .bool false, .int .i64 0, .int .i64 0, .int .i64 0, .int .i64 0, .int .i64 0, .int .i64 0, .int .i64 0, .int .i64 0, .bool false] (heap_alloc_new wB _) size_tskT rfl (by simp [Value.oneCell']) ?_))
  generalize hWC : World.setRow _ _ _ = WC
  have HU : Hid _ := MtU.made HK9.out HW9.out HBA.out HR5.out HF5.out HP5.out hWC
  clear hWC HK9 HW9 HBA HRA HR5 HF5 HP5
  generalize wB.heap.size = gu at HU ⊢
  generalize wD.heap.size = q at HU ⊢
  as_aux_lemma =>
  go_upto_region 33 with (go_at_call 13; refine (newwriter_any _).mono ?_; rintro r wE ⟨rfl, hwE, hbE⟩; have HWE : Hid (Wr wE (WC.heap.size + 1) WC.heap.size (.slice none 0 0) []) := hwE; have HBE : Hid (Below WC.heap.size WC wE) := hbE; clear hwE hbE)
  have HUE : Hid _ := HU.out.new HBE.out
  have hPut := put_tk (ac := ac) (bc := bc) (gc := hcp) (pc := qc) rfl rfl HWE.out (HU.out.pu.new HBE.out (fun k _ h => h)) HNb.out HOk.out HJc.out.ok HJc.out.pk HJn.out (kp := kp)
  rw [HL2.out] at hPut
  have HPut : Hid _ := hPut
  clear hPut
  as_aux_lemma =>
  go_upto_region 34 with (first
    | (refine wpList_load_row rfl 69 _ rfl gu rfl 69 #[.int .i64 (b0 : Nat), .int .i64 (b1 : Nat), .int .i64 (b2 : Nat), .int .i64 2, .slice ao 1 ac, .slice bo 2 bc, .string t, .slice ho G1.length hcp, .slice qo ps.length qc, .int .i64 (st2 : Nat), .int .i64 (se2 : Nat), .int .i64 (pa2 : Nat), .bool (oh o 0), .bool (oh o 1), .bool (oh o 2), .bool (oh o 3), .bool (oh o 4), .int .i64 (ov o 0), .int .i64 (ov o 1), .int .i64 (ov o 2), .int .i64 (ov o 3), .int .i64 (ov o 4), .int .i64 5, .int .i64 4, .int .i64 1, .bool kp] (0, 0) _ HUE.out.bx Tryz.underlying69 rfl size_tskT ?_)
    | (go_at_call 40; refine Calls.mono HPut.out ?_; rintro r wF ⟨rfl, e1⟩; have HTo : Hid (WTo wE wF (WC.heap.size + 1) WC.heap.size (.slice none 0 0) l2) := e1; clear e1))
  have HBF : Hid (Below WC.heap.size WC wF) := WTo.new HBE.out HWE.out HTo.out (Nat.le_refl _) (Nat.le_succ _)
  have HUF : Hid _ := HU.out.new HBF.out
  obtain ⟨vF, hwF, _, _⟩ := HTo.out
  have HZF : Hid (Wr wF (WC.heap.size + 1) WC.heap.size vF l2) := hwF
  clear HWE HBE HPut HUE HTo hwF HU HBF
  generalize WC.heap.size = z1 at HZF ⊢
  obtain ⟨ub, uo, rfl, hub, hcu⟩ := HUF.out.pu.n1.one
  obtain ⟨_, _, hq5, hqb, hcq⟩ := HUF.out.m.pt.n1.one
  cases hq5
  obtain ⟨Wd, hWd⟩ : ∃ Wd, World.drew wF = Wd := ⟨_, rfl⟩
  have hbd : Below wF.heap.size wF Wd := by rw [← hWd]; exact Below.drew (Below.refl _ _)
  have HSr : Hid (∀ W', Below wF.heap.size wF W' → (fun w' : World => w'.cell? ⟨gt, 0, none⟩ = some (.int .i64 (b0 : Nat)) ∧ w'.cell? ⟨gt, 2, none⟩ = some (.int .i64 (b2 : Nat)) ∧ w'.cell? ⟨gt, 4, none⟩ = some (.slice (some ⟨q5, 0, none⟩) 1 1) ∧ w'.cell? ⟨gt, 12, none⟩ = some (.bool (oh o 0)) ∧ w'.cell? ⟨gt, 13, none⟩ = some (.bool (oh o 1)) ∧ w'.cell? ⟨gt, 14, none⟩ = some (.bool (oh o 2)) ∧ w'.cell? ⟨gt, 15, none⟩ = some (.bool (oh o 3)) ∧ w'.cell? ⟨gt, 16, none⟩ = some (.bool (oh o 4)) ∧ w'.cell? ⟨gt, 17, none⟩ = some (.int .i64 (ov o 0)) ∧ w'.cell? ⟨gt, 18, none⟩ = some (.int .i64 (ov o 1)) ∧ w'.cell? ⟨gt, 19, none⟩ = some (.int .i64 (ov o 2)) ∧ w'.cell? ⟨gt, 20, none⟩ = some (.int .i64 (ov o 3)) ∧ w'.cell? ⟨gt, 21, none⟩ = some (.int .i64 (ov o 4)) ∧ w'.cell? ⟨gt, 25, none⟩ = some (.bool kp) ∧ w'.cell? ⟨gu, 0, none⟩ = some (.int .i64 (b0 : Nat)) ∧ w'.cell? ⟨gu, 2, none⟩ = some (.int .i64 (b2 : Nat)) ∧ w'.cell? ⟨gu, 4, none⟩ = some (.slice (some ⟨ub, uo, none⟩) 1 ac) ∧ w'.cell? ⟨gu, 5, none⟩ = some (.slice bo 2 bc) ∧ w'.cell? ⟨gu, 12, none⟩ = some (.bool (oh o 0)) ∧ w'.cell? ⟨gu, 13, none⟩ = some (.bool (oh o 1)) ∧ w'.cell? ⟨gu, 14, none⟩ = some (.bool (oh o 2)) ∧ w'.cell? ⟨gu, 15, none⟩ = some (.bool (oh o 3)) ∧ w'.cell? ⟨gu, 16, none⟩ = some (.bool (oh o 4)) ∧ w'.cell? ⟨gu, 17, none⟩ = some (.int .i64 (ov o 0)) ∧ w'.cell? ⟨gu, 18, none⟩ = some (.int .i64 (ov o 1)) ∧ w'.cell? ⟨gu, 19, none⟩ = some (.int .i64 (ov o 2)) ∧ w'.cell? ⟨gu, 20, none⟩ = some (.int .i64 (ov o 3)) ∧ w'.cell? ⟨gu, 21, none⟩ = some (.int .i64 (ov o 4)) ∧ w'.cell? ⟨gu, 25, none⟩ = some (.bool kp) ∧ w'.cell? ⟨ub, uo, none⟩ = some (.int .i64 (c0 : Nat)) ∧ w'.cell? ⟨q5, 0, none⟩ = some (.int .i64 (c0 : Nat))) W') := fun W' hb => by
    obtain ⟨p0, p2, p4, p5, p12, p13, p14, p15, p16, p17, p18, p19, p20, p21, p25⟩ := tk_cells (HUF.out.new hb).m.bx
    obtain ⟨r0, r2, r4, r5, r12, r13, r14, r15, r16, r17, r18, r19, r20, r21, r25⟩ := tk_cells (HUF.out.new hb).bx
    have k1 := (hb.cell (p := ⟨ub, uo, none⟩) hub).trans hcu
    have k2 := (hb.cell (p := ⟨q5, 0, none⟩) hqb).trans hcq
    exact ⟨p0, p2, p4, p12, p13, p14, p15, p16, p17, p18, p19, p20, p21, p25, r0, r2, r4, r5, r12, r13, r14, r15, r16, r17, r18, r19, r20, r21, r25, k1, k2⟩
  have HUd : Hid _ := HUF.out.new hbd
  have HZd : Hid (Wr Wd (z1 + 1) z1 vF l2) := HZF.out.kept (Fr.ofBelow hbd (fun _ => False)) (fun h => h) (fun _ _ h => h)
  have HBd : Hid (Below wF.heap.size wF Wd) := hbd
  have hS : (fun w' : World => w'.cell? ⟨gt, 0, none⟩ = some (.int .i64 (b0 : Nat)) ∧ w'.cell? ⟨gt, 2, none⟩ = some (.int .i64 (b2 : Nat)) ∧ w'.cell? ⟨gt, 4, none⟩ = some (.slice (some ⟨q5, 0, none⟩) 1 1) ∧ w'.cell? ⟨gt, 12, none⟩ = some (.bool (oh o 0)) ∧ w'.cell? ⟨gt, 13, none⟩ = some (.bool (oh o 1)) ∧ w'.cell? ⟨gt, 14, none⟩ = some (.bool (oh o 2)) ∧ w'.cell? ⟨gt, 15, none⟩ = some (.bool (oh o 3)) ∧ w'.cell? ⟨gt, 16, none⟩ = some (.bool (oh o 4)) ∧ w'.cell? ⟨gt, 17, none⟩ = some (.int .i64 (ov o 0)) ∧ w'.cell? ⟨gt, 18, none⟩ = some (.int .i64 (ov o 1)) ∧ w'.cell? ⟨gt, 19, none⟩ = some (.int .i64 (ov o 2)) ∧ w'.cell? ⟨gt, 20, none⟩ = some (.int .i64 (ov o 3)) ∧ w'.cell? ⟨gt, 21, none⟩ = some (.int .i64 (ov o 4)) ∧ w'.cell? ⟨gt, 25, none⟩ = some (.bool kp) ∧ w'.cell? ⟨gu, 0, none⟩ = some (.int .i64 (b0 : Nat)) ∧ w'.cell? ⟨gu, 2, none⟩ = some (.int .i64 (b2 : Nat)) ∧ w'.cell? ⟨gu, 4, none⟩ = some (.slice (some ⟨ub, uo, none⟩) 1 ac) ∧ w'.cell? ⟨gu, 5, none⟩ = some (.slice bo 2 bc) ∧ w'.cell? ⟨gu, 12, none⟩ = some (.bool (oh o 0)) ∧ w'.cell? ⟨gu, 13, none⟩ = some (.bool (oh o 1)) ∧ w'.cell? ⟨gu, 14, none⟩ = some (.bool (oh o 2)) ∧ w'.cell? ⟨gu, 15, none⟩ = some (.bool (oh o 3)) ∧ w'.cell? ⟨gu, 16, none⟩ = some (.bool (oh o 4)) ∧ w'.cell? ⟨gu, 17, none⟩ = some (.int .i64 (ov o 0)) ∧ w'.cell? ⟨gu, 18, none⟩ = some (.int .i64 (ov o 1)) ∧ w'.cell? ⟨gu, 19, none⟩ = some (.int .i64 (ov o 2)) ∧ w'.cell? ⟨gu, 20, none⟩ = some (.int .i64 (ov o 3)) ∧ w'.cell? ⟨gu, 21, none⟩ = some (.int .i64 (ov o 4)) ∧ w'.cell? ⟨gu, 25, none⟩ = some (.bool kp) ∧ w'.cell? ⟨ub, uo, none⟩ = some (.int .i64 (c0 : Nat)) ∧ w'.cell? ⟨q5, 0, none⟩ = some (.int .i64 (c0 : Nat))) Wd := HSr.out _ hbd
  clear hub hcu hqb hcq hbd HUF HZF
  as_aux_lemma =>
  refine wp_calmM ?_
  refine wp_region_L [] (fun w' : World => w'.cell? ⟨gt, 0, none⟩ = some (.int .i64 (b0 : Nat)) ∧ w'.cell? ⟨gt, 2, none⟩ = some (.int .i64 (b2 : Nat)) ∧ w'.cell? ⟨gt, 4, none⟩ = some (.slice (some ⟨q5, 0, none⟩) 1 1) ∧ w'.cell? ⟨gt, 12, none⟩ = some (.bool (oh o 0)) ∧ w'.cell? ⟨gt, 13, none⟩ = some (.bool (oh o 1)) ∧ w'.cell? ⟨gt, 14, none⟩ = some (.bool (oh o 2)) ∧ w'.cell? ⟨gt, 15, none⟩ = some (.bool (oh o 3)) ∧ w'.cell? ⟨gt, 16, none⟩ = some (.bool (oh o 4)) ∧ w'.cell? ⟨gt, 17, none⟩ = some (.int .i64 (ov o 0)) ∧ w'.cell? ⟨gt, 18, none⟩ = some (.int .i64 (ov o 1)) ∧ w'.cell? ⟨gt, 19, none⟩ = some (.int .i64 (ov o 2)) ∧ w'.cell? ⟨gt, 20, none⟩ = some (.int .i64 (ov o 3)) ∧ w'.cell? ⟨gt, 21, none⟩ = some (.int .i64 (ov o 4)) ∧ w'.cell? ⟨gt, 25, none⟩ = some (.bool kp) ∧ w'.cell? ⟨gu, 0, none⟩ = some (.int .i64 (b0 : Nat)) ∧ w'.cell? ⟨gu, 2, none⟩ = some (.int .i64 (b2 : Nat)) ∧ w'.cell? ⟨gu, 4, none⟩ = some (.slice (some ⟨ub, uo, none⟩) 1 ac) ∧ w'.cell? ⟨gu, 5, none⟩ = some (.slice bo 2 bc) ∧ w'.cell? ⟨gu, 12, none⟩ = some (.bool (oh o 0)) ∧ w'.cell? ⟨gu, 13, none⟩ = some (.bool (oh o 1)) ∧ w'.cell? ⟨gu, 14, none⟩ = some (.bool (oh o 2)) ∧ w'.cell? ⟨gu, 15, none⟩ = some (.bool (oh o 3)) ∧ w'.cell? ⟨gu, 16, none⟩ = some (.bool (oh o 4)) ∧ w'.cell? ⟨gu, 17, none⟩ = some (.int .i64 (ov o 0)) ∧ w'.cell? ⟨gu, 18, none⟩ = some (.int .i64 (ov o 1)) ∧ w'.cell? ⟨gu, 19, none⟩ = some (.int .i64 (ov o 2)) ∧ w'.cell? ⟨gu, 20, none⟩ = some (.int .i64 (ov o 3)) ∧ w'.cell? ⟨gu, 21, none⟩ = some (.int .i64 (ov o 4)) ∧ w'.cell? ⟨gu, 25, none⟩ = some (.bool kp) ∧ w'.cell? ⟨ub, uo, none⟩ = some (.int .i64 (c0 : Nat)) ∧ w'.cell? ⟨q5, 0, none⟩ = some (.int .i64 (c0 : Nat))) (by kernel_rfl) ?_
  rw [hWd]
  clear hWd
  refine wpAnyL_take (i := 0) 193 (v := .pointer (some ⟨z1, 0, none⟩)) rfl rfl (by kernel_rfl) (by kernel_rfl) (by kernel_rfl) (by kernel_rfl) (by kernel_rfl) (by kernel_rfl) (fun _ _ _ h => h) hS (by rfl) (by intro w' hSw; obtain ⟨y0, y1, y2, y3, y4, y5, y6, y7, y8, y9, y10, y11, y12, y13, y14, y15, y16, y17, y18, y19, y20, y21, y22, y23, y24, y25, y26, y27, y28, y29, y30⟩ := hSw; go_simp <;> with_reducible rfl) ?_
  simp only [Act.put, List.setIfInBounds_toArray, List.set_cons_zero, List.set_cons_succ]
  refine wpAnyL_take (i := 2) 195 (v := .pointer (some ⟨z, 0, none⟩)) rfl rfl (by kernel_rfl) (by kernel_rfl) (by kernel_rfl) (by kernel_rfl) (by kernel_rfl) (by kernel_rfl) (fun _ _ _ h => h) hS (by rfl) (by intro w' hSw; obtain ⟨y0, y1, y2, y3, y4, y5, y6, y7, y8, y9, y10, y11, y12, y13, y14, y15, y16, y17, y18, y19, y20, y21, y22, y23, y24, y25, y26, y27, y28, y29, y30⟩ := hSw; go_simp <;> with_reducible rfl) ?_
  simp only [Act.put, List.setIfInBounds_toArray, List.set_cons_zero, List.set_cons_succ]
  refine wpAnyL_one (i := 1) (by kernel_rfl) rfl (fun Ka hKa => ?_)
  go_simp
  refine Calls.mono (wall_any HZd.out) ?_
  rintro r wG ⟨rfl, hwG⟩
  rw [hwG]
  clear hwG
  refine hKa.out _ _ (fun _ => hS) ?_
  clear hKa Ka
  try simp only [Act.put, List.setIfInBounds_toArray, List.set_cons_zero, List.set_cons_succ]
  refine wpAnyL_one (i := 3) (by kernel_rfl) rfl (fun Ka hKa => ?_)
  go_simp
  refine Calls.mono (wall_any HUd.out.wt) ?_
  rintro r wG ⟨rfl, hwG⟩
  rw [hwG]
  clear hwG
  refine hKa.out _ _ (fun _ => hS) ?_
  clear hKa Ka
  try simp only [Act.put, List.setIfInBounds_toArray, List.set_cons_zero, List.set_cons_succ]
  refine wpAnyL_take (i := 4) 197 (v := .bool true) rfl rfl (by kernel_rfl) (by kernel_rfl) (by kernel_rfl) (by kernel_rfl) (by kernel_rfl) (by kernel_rfl) (fun _ _ _ h => h) hS (by rfl) (by intro w' hSw; obtain ⟨y0, y1, y2, y3, y4, y5, y6, y7, y8, y9, y10, y11, y12, y13, y14, y15, y16, y17, y18, y19, y20, y21, y22, y23, y24, y25, y26, y27, y28, y29, y30⟩ := hSw; go_simp <;> with_reducible rfl) ?_
  simp only [Act.put, List.setIfInBounds_toArray, List.set_cons_zero, List.set_cons_succ]
  refine wpAnyL_take (i := 5) 198 (v := .bool true) rfl rfl (by kernel_rfl) (by kernel_rfl) (by kernel_rfl) (by kernel_rfl) (by kernel_rfl) (by kernel_rfl) (fun _ _ _ h => h) hS (by rfl) (by intro w' hSw; obtain ⟨y0, y1, y2, y3, y4, y5, y6, y7, y8, y9, y10, y11, y12, y13, y14, y15, y16, y17, y18, y19, y20, y21, y22, y23, y24, y25, y26, y27, y28, y29, y30⟩ := hSw; go_simp <;> with_reducible rfl) ?_
  simp only [Act.put, List.setIfInBounds_toArray, List.set_cons_zero, List.set_cons_succ]
  refine wpAnyL_take (i := 6) 199 (v := .pointer (some ⟨q, 0, none⟩)) rfl rfl (by kernel_rfl) (by kernel_rfl) (by kernel_rfl) (by kernel_rfl) (by kernel_rfl) (by kernel_rfl) (fun _ _ _ h => h) hS (by rfl) (by intro w' hSw; obtain ⟨y0, y1, y2, y3, y4, y5, y6, y7, y8, y9, y10, y11, y12, y13, y14, y15, y16, y17, y18, y19, y20, y21, y22, y23, y24, y25, y26, y27, y28, y29, y30⟩ := hSw; go_simp <;> with_reducible rfl) ?_
  simp only [Act.put, List.setIfInBounds_toArray, List.set_cons_zero, List.set_cons_succ]
  refine wpAnyL_one (i := 7) (by kernel_rfl) rfl (fun Ka hKa => ?_)
  go_simp
  refine Calls.mono (mt_left HUd.out.rd HLe2.out) ?_
  rintro r wG ⟨rfl, hbG⟩
  have HUx : Hid _ := HUd.out.new hbG
  have hS := HSr.out _ (HBd.out.trans (hbG.mono HBd.out.size))
  clear hbG HUd HZd HBd HSr
  refine hKa.out _ _ (fun _ => hS) ?_
  clear hKa Ka
  try simp only [Act.put, List.setIfInBounds_toArray, List.set_cons_zero, List.set_cons_succ]
  refine wpAnyL_take (i := 8) 201 (v := .bool true) rfl rfl (by kernel_rfl) (by kernel_rfl) (by kernel_rfl) (by kernel_rfl) (by kernel_rfl) (by kernel_rfl) (fun _ _ _ h => h) hS (by rfl) (by intro w' hSw; obtain ⟨y0, y1, y2, y3, y4, y5, y6, y7, y8, y9, y10, y11, y12, y13, y14, y15, y16, y17, y18, y19, y20, y21, y22, y23, y24, y25, y26, y27, y28, y29, y30⟩ := hSw; go_simp <;> with_reducible rfl) ?_
  simp only [Act.put, List.setIfInBounds_toArray, List.set_cons_zero, List.set_cons_succ]
  refine wpAnyL_take (i := 9) 202 (v := .bool true) rfl rfl (by kernel_rfl) (by kernel_rfl) (by kernel_rfl) (by kernel_rfl) (by kernel_rfl) (by kernel_rfl) (fun _ _ _ h => h) hS (by rfl) (by intro w' hSw; obtain ⟨y0, y1, y2, y3, y4, y5, y6, y7, y8, y9, y10, y11, y12, y13, y14, y15, y16, y17, y18, y19, y20, y21, y22, y23, y24, y25, y26, y27, y28, y29, y30⟩ := hSw; go_simp <;> with_reducible rfl) ?_
  simp only [Act.put, List.setIfInBounds_toArray, List.set_cons_zero, List.set_cons_succ]
  refine wpAnyL_take (i := 10) 203 (v := .bool true) rfl rfl (by kernel_rfl) (by kernel_rfl) (by kernel_rfl) (by kernel_rfl) (by kernel_rfl) (by kernel_rfl) (fun _ _ _ h => h) hS (by rfl) (by intro w' hSw; obtain ⟨y0, y1, y2, y3, y4, y5, y6, y7, y8, y9, y10, y11, y12, y13, y14, y15, y16, y17, y18, y19, y20, y21, y22, y23, y24, y25, y26, y27, y28, y29, y30⟩ := hSw; go_simp <;> with_reducible rfl) ?_
  simp only [Act.put, List.setIfInBounds_toArray, List.set_cons_zero, List.set_cons_succ]
  refine wpAnyL_take (i := 11) 204 (v := .pointer (some ⟨gu, 0, none⟩)) rfl rfl (by kernel_rfl) (by kernel_rfl) (by kernel_rfl) (by kernel_rfl) (by kernel_rfl) (by kernel_rfl) (fun _ _ _ h => h) hS (by rfl) (by intro w' hSw; obtain ⟨y0, y1, y2, y3, y4, y5, y6, y7, y8, y9, y10, y11, y12, y13, y14, y15, y16, y17, y18, y19, y20, y21, y22, y23, y24, y25, y26, y27, y28, y29, y30⟩ := hSw; go_simp <;> with_reducible rfl) ?_
  simp only [Act.put, List.setIfInBounds_toArray, List.set_cons_zero, List.set_cons_succ]
  refine wpAnyL_take (i := 12) 205 (v := .int .i64 (b0 : Nat)) rfl rfl (by kernel_rfl) (by kernel_rfl) (by kernel_rfl) (by kernel_rfl) (by kernel_rfl) (by kernel_rfl) (fun _ _ _ h => h) hS (by rfl) (by intro w' hSw; obtain ⟨y0, y1, y2, y3, y4, y5, y6, y7, y8, y9, y10, y11, y12, y13, y14, y15, y16, y17, y18, y19, y20, y21, y22, y23, y24, y25, y26, y27, y28, y29, y30⟩ := hSw; go_simp <;> with_reducible rfl) ?_
  simp only [Act.put, List.setIfInBounds_toArray, List.set_cons_zero, List.set_cons_succ]
  refine wpAnyL_take (i := 13) 206 (v := .pointer (some ⟨gt, 0, none⟩)) rfl rfl (by kernel_rfl) (by kernel_rfl) (by kernel_rfl) (by kernel_rfl) (by kernel_rfl) (by kernel_rfl) (fun _ _ _ h => h) hS (by rfl) (by intro w' hSw; obtain ⟨y0, y1, y2, y3, y4, y5, y6, y7, y8, y9, y10, y11, y12, y13, y14, y15, y16, y17, y18, y19, y20, y21, y22, y23, y24, y25, y26, y27, y28, y29, y30⟩ := hSw; go_simp <;> with_reducible rfl) ?_
  simp only [Act.put, List.setIfInBounds_toArray, List.set_cons_zero, List.set_cons_succ]
  refine wpAnyL_take (i := 14) 207 (v := .int .i64 (b0 : Nat)) rfl rfl (by kernel_rfl) (by kernel_rfl) (by kernel_rfl) (by kernel_rfl) (by kernel_rfl) (by kernel_rfl) (fun _ _ _ h => h) hS (by rfl) (by intro w' hSw; obtain ⟨y0, y1, y2, y3, y4, y5, y6, y7, y8, y9, y10, y11, y12, y13, y14, y15, y16, y17, y18, y19, y20, y21, y22, y23, y24, y25, y26, y27, y28, y29, y30⟩ := hSw; go_simp <;> with_reducible rfl) ?_
  simp only [Act.put, List.setIfInBounds_toArray, List.set_cons_zero, List.set_cons_succ]
  refine wpAnyL_take (i := 15) 208 (v := .bool true) rfl rfl (by kernel_rfl) (by kernel_rfl) (by kernel_rfl) (by kernel_rfl) (by kernel_rfl) (by kernel_rfl) (fun _ _ _ h => h) hS (by rfl) (by intro w' hSw; obtain ⟨y0, y1, y2, y3, y4, y5, y6, y7, y8, y9, y10, y11, y12, y13, y14, y15, y16, y17, y18, y19, y20, y21, y22, y23, y24, y25, y26, y27, y28, y29, y30⟩ := hSw; go_simp <;> with_reducible rfl) ?_
  simp only [Act.put, List.setIfInBounds_toArray, List.set_cons_zero, List.set_cons_succ]
  refine wpAnyL_take (i := 16) 209 (v := .bool true) rfl rfl (by kernel_rfl) (by kernel_rfl) (by kernel_rfl) (by kernel_rfl) (by kernel_rfl) (by kernel_rfl) (fun _ _ _ h => h) hS (by rfl) (by intro w' hSw; obtain ⟨y0, y1, y2, y3, y4, y5, y6, y7, y8, y9, y10, y11, y12, y13, y14, y15, y16, y17, y18, y19, y20, y21, y22, y23, y24, y25, y26, y27, y28, y29, y30⟩ := hSw; go_simp <;> with_reducible rfl) ?_
  simp only [Act.put, List.setIfInBounds_toArray, List.set_cons_zero, List.set_cons_succ]
  refine wpAnyL_take (i := 17) 210 (v := .bool true) rfl rfl (by kernel_rfl) (by kernel_rfl) (by kernel_rfl) (by kernel_rfl) (by kernel_rfl) (by kernel_rfl) (fun _ _ _ h => h) hS (by rfl) (by intro w' hSw; obtain ⟨y0, y1, y2, y3, y4, y5, y6, y7, y8, y9, y10, y11, y12, y13, y14, y15, y16, y17, y18, y19, y20, y21, y22, y23, y24, y25, y26, y27, y28, y29, y30⟩ := hSw; go_simp <;> with_reducible rfl) ?_
  simp only [Act.put, List.setIfInBounds_toArray, List.set_cons_zero, List.set_cons_succ]
  refine wpAnyL_take (i := 18) 211 (v := .pointer (some ⟨gu, 2, none⟩)) rfl rfl (by kernel_rfl) (by kernel_rfl) (by kernel_rfl) (by kernel_rfl) (by kernel_rfl) (by kernel_rfl) (fun _ _ _ h => h) hS (by rfl) (by intro w' hSw; obtain ⟨y0, y1, y2, y3, y4, y5, y6, y7, y8, y9, y10, y11, y12, y13, y14, y15, y16, y17, y18, y19, y20, y21, y22, y23, y24, y25, y26, y27, y28, y29, y30⟩ := hSw; go_simp <;> with_reducible rfl) ?_
  simp only [Act.put, List.setIfInBounds_toArray, List.set_cons_zero, List.set_cons_succ]
  refine wpAnyL_take (i := 19) 212 (v := .int .i64 (b2 : Nat)) rfl rfl (by kernel_rfl) (by kernel_rfl) (by kernel_rfl) (by kernel_rfl) (by kernel_rfl) (by kernel_rfl) (fun _ _ _ h => h) hS (by rfl) (by intro w' hSw; obtain ⟨y0, y1, y2, y3, y4, y5, y6, y7, y8, y9, y10, y11, y12, y13, y14, y15, y16, y17, y18, y19, y20, y21, y22, y23, y24, y25, y26, y27, y28, y29, y30⟩ := hSw; go_simp <;> with_reducible rfl) ?_
  simp only [Act.put, List.setIfInBounds_toArray, List.set_cons_zero, List.set_cons_succ]
  refine wpAnyL_take (i := 20) 213 (v := .pointer (some ⟨gt, 2, none⟩)) rfl rfl (by kernel_rfl) (by kernel_rfl) (by kernel_rfl) (by kernel_rfl) (by kernel_rfl) (by kernel_rfl) (fun _ _ _ h => h) hS (by rfl) (by intro w' hSw; obtain ⟨y0, y1, y2, y3, y4, y5, y6, y7, y8, y9, y10, y11, y12, y13, y14, y15, y16, y17, y18, y19, y20, y21, y22, y23, y24, y25, y26, y27, y28, y29, y30⟩ := hSw; go_simp <;> with_reducible rfl) ?_
  simp only [Act.put, List.setIfInBounds_toArray, List.set_cons_zero, List.set_cons_succ]
  refine wpAnyL_take (i := 21) 214 (v := .int .i64 (b2 : Nat)) rfl rfl (by kernel_rfl) (by kernel_rfl) (by kernel_rfl) (by kernel_rfl) (by kernel_rfl) (by kernel_rfl) (fun _ _ _ h => h) hS (by rfl) (by intro w' hSw; obtain ⟨y0, y1, y2, y3, y4, y5, y6, y7, y8, y9, y10, y11, y12, y13, y14, y15, y16, y17, y18, y19, y20, y21, y22, y23, y24, y25, y26, y27, y28, y29, y30⟩ := hSw; go_simp <;> with_reducible rfl) ?_
  simp only [Act.put, List.setIfInBounds_toArray, List.set_cons_zero, List.set_cons_succ]
  refine wpAnyL_take (i := 22) 215 (v := .bool true) rfl rfl (by kernel_rfl) (by kernel_rfl) (by kernel_rfl) (by kernel_rfl) (by kernel_rfl) (by kernel_rfl) (fun _ _ _ h => h) hS (by rfl) (by intro w' hSw; obtain ⟨y0, y1, y2, y3, y4, y5, y6, y7, y8, y9, y10, y11, y12, y13, y14, y15, y16, y17, y18, y19, y20, y21, y22, y23, y24, y25, y26, y27, y28, y29, y30⟩ := hSw; go_simp <;> with_reducible rfl) ?_
  simp only [Act.put, List.setIfInBounds_toArray, List.set_cons_zero, List.set_cons_succ]
  refine wpAnyL_take (i := 23) 216 (v := .bool true) rfl rfl (by kernel_rfl) (by kernel_rfl) (by kernel_rfl) (by kernel_rfl) (by kernel_rfl) (by kernel_rfl) (fun _ _ _ h => h) hS (by rfl) (by intro w' hSw; obtain ⟨y0, y1, y2, y3, y4, y5, y6, y7, y8, y9, y10, y11, y12, y13, y14, y15, y16, y17, y18, y19, y20, y21, y22, y23, y24, y25, y26, y27, y28, y29, y30⟩ := hSw; go_simp <;> with_reducible rfl) ?_
  simp only [Act.put, List.setIfInBounds_toArray, List.set_cons_zero, List.set_cons_succ]
  refine wpAnyL_take (i := 24) 217 (v := .bool true) rfl rfl (by kernel_rfl) (by kernel_rfl) (by kernel_rfl) (by kernel_rfl) (by kernel_rfl) (by kernel_rfl) (fun _ _ _ h => h) hS (by rfl) (by intro w' hSw; obtain ⟨y0, y1, y2, y3, y4, y5, y6, y7, y8, y9, y10, y11, y12, y13, y14, y15, y16, y17, y18, y19, y20, y21, y22, y23, y24, y25, y26, y27, y28, y29, y30⟩ := hSw; go_simp <;> with_reducible rfl) ?_
  simp only [Act.put, List.setIfInBounds_toArray, List.set_cons_zero, List.set_cons_succ]
  refine wpAnyL_take (i := 25) 218 (v := .pointer (some ⟨gu, 25, none⟩)) rfl rfl (by kernel_rfl) (by kernel_rfl) (by kernel_rfl) (by kernel_rfl) (by kernel_rfl) (by kernel_rfl) (fun _ _ _ h => h) hS (by rfl) (by intro w' hSw; obtain ⟨y0, y1, y2, y3, y4, y5, y6, y7, y8, y9, y10, y11, y12, y13, y14, y15, y16, y17, y18, y19, y20, y21, y22, y23, y24, y25, y26, y27, y28, y29, y30⟩ := hSw; go_simp <;> with_reducible rfl) ?_
  simp only [Act.put, List.setIfInBounds_toArray, List.set_cons_zero, List.set_cons_succ]
  refine wpAnyL_take (i := 26) 219 (v := .bool kp) rfl rfl (by kernel_rfl) (by kernel_rfl) (by kernel_rfl) (by kernel_rfl) (by kernel_rfl) (by kernel_rfl) (fun _ _ _ h => h) hS (by rfl) (by intro w' hSw; obtain ⟨y0, y1, y2, y3, y4, y5, y6, y7, y8, y9, y10, y11, y12, y13, y14, y15, y16, y17, y18, y19, y20, y21, y22, y23, y24, y25, y26, y27, y28, y29, y30⟩ := hSw; go_simp <;> with_reducible rfl) ?_
  simp only [Act.put, List.setIfInBounds_toArray, List.set_cons_zero, List.set_cons_succ]
  refine wpAnyL_take (i := 27) 220 (v := .pointer (some ⟨gt, 25, none⟩)) rfl rfl (by kernel_rfl) (by kernel_rfl) (by kernel_rfl) (by kernel_rfl) (by kernel_rfl) (by kernel_rfl) (fun _ _ _ h => h) hS (by rfl) (by intro w' hSw; obtain ⟨y0, y1, y2, y3, y4, y5, y6, y7, y8, y9, y10, y11, y12, y13, y14, y15, y16, y17, y18, y19, y20, y21, y22, y23, y24, y25, y26, y27, y28, y29, y30⟩ := hSw; go_simp <;> with_reducible rfl) ?_
  simp only [Act.put, List.setIfInBounds_toArray, List.set_cons_zero, List.set_cons_succ]
  refine wpAnyL_take (i := 28) 221 (v := .bool kp) rfl rfl (by kernel_rfl) (by kernel_rfl) (by kernel_rfl) (by kernel_rfl) (by kernel_rfl) (by kernel_rfl) (fun _ _ _ h => h) hS (by rfl) (by intro w' hSw; obtain ⟨y0, y1, y2, y3, y4, y5, y6, y7, y8, y9, y10, y11, y12, y13, y14, y15, y16, y17, y18, y19, y20, y21, y22, y23, y24, y25, y26, y27, y28, y29, y30⟩ := hSw; go_simp <;> with_reducible rfl) ?_
  simp only [Act.put, List.setIfInBounds_toArray, List.set_cons_zero, List.set_cons_succ]
  refine wpAnyL_take (i := 29) 222 (v := .bool true) rfl rfl (by kernel_rfl) (by kernel_rfl) (by kernel_rfl) (by kernel_rfl) (by kernel_rfl) (by kernel_rfl) (fun _ _ _ h => h) hS (by rfl) (by intro w' hSw; obtain ⟨y0, y1, y2, y3, y4, y5, y6, y7, y8, y9, y10, y11, y12, y13, y14, y15, y16, y17, y18, y19, y20, y21, y22, y23, y24, y25, y26, y27, y28, y29, y30⟩ := hSw; go_simp <;> with_reducible rfl) ?_
  simp only [Act.put, List.setIfInBounds_toArray, List.set_cons_zero, List.set_cons_succ]
  refine wpAnyL_take (i := 30) 223 (v := .bool true) rfl rfl (by kernel_rfl) (by kernel_rfl) (by kernel_rfl) (by kernel_rfl) (by kernel_rfl) (by kernel_rfl) (fun _ _ _ h => h) hS (by rfl) (by intro w' hSw; obtain ⟨y0, y1, y2, y3, y4, y5, y6, y7, y8, y9, y10, y11, y12, y13, y14, y15, y16, y17, y18, y19, y20, y21, y22, y23, y24, y25, y26, y27, y28, y29, y30⟩ := hSw; go_simp <;> with_reducible rfl) ?_
  simp only [Act.put, List.setIfInBounds_toArray, List.set_cons_zero, List.set_cons_succ]
  refine wpAnyL_take (i := 31) 224 (v := .bool true) rfl rfl (by kernel_rfl) (by kernel_rfl) (by kernel_rfl) (by kernel_rfl) (by kernel_rfl) (by kernel_rfl) (fun _ _ _ h => h) hS (by rfl) (by intro w' hSw; obtain ⟨y0, y1, y2, y3, y4, y5, y6, y7, y8, y9, y10, y11, y12, y13, y14, y15, y16, y17, y18, y19, y20, y21, y22, y23, y24, y25, y26, y27, y28, y29, y30⟩ := hSw; go_simp <;> with_reducible rfl) ?_
  simp only [Act.put, List.setIfInBounds_toArray, List.set_cons_zero, List.set_cons_succ]
  refine wpAnyL_take (i := 32) 225 (v := .pointer (some ⟨gu, 5, none⟩)) rfl rfl (by kernel_rfl) (by kernel_rfl) (by kernel_rfl) (by kernel_rfl) (by kernel_rfl) (by kernel_rfl) (fun _ _ _ h => h) hS (by rfl) (by intro w' hSw; obtain ⟨y0, y1, y2, y3, y4, y5, y6, y7, y8, y9, y10, y11, y12, y13, y14, y15, y16, y17, y18, y19, y20, y21, y22, y23, y24, y25, y26, y27, y28, y29, y30⟩ := hSw; go_simp <;> with_reducible rfl) ?_
  simp only [Act.put, List.setIfInBounds_toArray, List.set_cons_zero, List.set_cons_succ]
  refine wpAnyL_take (i := 33) 226 (v := .slice bo 2 bc) rfl rfl (by kernel_rfl) (by kernel_rfl) (by kernel_rfl) (by kernel_rfl) (by kernel_rfl) (by kernel_rfl) (fun _ _ _ h => h) hS (by rfl) (by intro w' hSw; obtain ⟨y0, y1, y2, y3, y4, y5, y6, y7, y8, y9, y10, y11, y12, y13, y14, y15, y16, y17, y18, y19, y20, y21, y22, y23, y24, y25, y26, y27, y28, y29, y30⟩ := hSw; go_simp <;> with_reducible rfl) ?_
  simp only [Act.put, List.setIfInBounds_toArray, List.set_cons_zero, List.set_cons_succ]
  refine wpAnyL_take (i := 34) 227 (v := .int .i64 2) rfl rfl (by kernel_rfl) (by kernel_rfl) (by kernel_rfl) (by kernel_rfl) (by kernel_rfl) (by kernel_rfl) (fun _ _ _ h => h) hS (by rfl) (by intro w' hSw; obtain ⟨y0, y1, y2, y3, y4, y5, y6, y7, y8, y9, y10, y11, y12, y13, y14, y15, y16, y17, y18, y19, y20, y21, y22, y23, y24, y25, y26, y27, y28, y29, y30⟩ := hSw; go_simp <;> with_reducible rfl) ?_
  simp only [Act.put, List.setIfInBounds_toArray, List.set_cons_zero, List.set_cons_succ]
  refine wpAnyL_take (i := 35) 228 (v := .bool true) rfl rfl (by kernel_rfl) (by kernel_rfl) (by kernel_rfl) (by kernel_rfl) (by kernel_rfl) (by kernel_rfl) (fun _ _ _ h => h) hS (by rfl) (by intro w' hSw; obtain ⟨y0, y1, y2, y3, y4, y5, y6, y7, y8, y9, y10, y11, y12, y13, y14, y15, y16, y17, y18, y19, y20, y21, y22, y23, y24, y25, y26, y27, y28, y29, y30⟩ := hSw; go_simp <;> with_reducible rfl) ?_
  simp only [Act.put, List.setIfInBounds_toArray, List.set_cons_zero, List.set_cons_succ]
  refine wpAnyL_take (i := 36) 229 (v := .bool true) rfl rfl (by kernel_rfl) (by kernel_rfl) (by kernel_rfl) (by kernel_rfl) (by kernel_rfl) (by kernel_rfl) (fun _ _ _ h => h) hS (by rfl) (by intro w' hSw; obtain ⟨y0, y1, y2, y3, y4, y5, y6, y7, y8, y9, y10, y11, y12, y13, y14, y15, y16, y17, y18, y19, y20, y21, y22, y23, y24, y25, y26, y27, y28, y29, y30⟩ := hSw; go_simp <;> with_reducible rfl) ?_
  simp only [Act.put, List.setIfInBounds_toArray, List.set_cons_zero, List.set_cons_succ]
  refine wpAnyL_take (i := 37) 230 (v := .bool true) rfl rfl (by kernel_rfl) (by kernel_rfl) (by kernel_rfl) (by kernel_rfl) (by kernel_rfl) (by kernel_rfl) (fun _ _ _ h => h) hS (by rfl) (by intro w' hSw; obtain ⟨y0, y1, y2, y3, y4, y5, y6, y7, y8, y9, y10, y11, y12, y13, y14, y15, y16, y17, y18, y19, y20, y21, y22, y23, y24, y25, y26, y27, y28, y29, y30⟩ := hSw; go_simp <;> with_reducible rfl) ?_
  simp only [Act.put, List.setIfInBounds_toArray, List.set_cons_zero, List.set_cons_succ]
  refine wpAnyL_take (i := 38) 231 (v := .pointer (some ⟨gu, 4, none⟩)) rfl rfl (by kernel_rfl) (by kernel_rfl) (by kernel_rfl) (by kernel_rfl) (by kernel_rfl) (by kernel_rfl) (fun _ _ _ h => h) hS (by rfl) (by intro w' hSw; obtain ⟨y0, y1, y2, y3, y4, y5, y6, y7, y8, y9, y10, y11, y12, y13, y14, y15, y16, y17, y18, y19, y20, y21, y22, y23, y24, y25, y26, y27, y28, y29, y30⟩ := hSw; go_simp <;> with_reducible rfl) ?_
  simp only [Act.put, List.setIfInBounds_toArray, List.set_cons_zero, List.set_cons_succ]
  refine wpAnyL_take (i := 39) 232 (v := .slice (some ⟨ub, uo, none⟩) 1 ac) rfl rfl (by kernel_rfl) (by kernel_rfl) (by kernel_rfl) (by kernel_rfl) (by kernel_rfl) (by kernel_rfl) (fun _ _ _ h => h) hS (by rfl) (by intro w' hSw; obtain ⟨y0, y1, y2, y3, y4, y5, y6, y7, y8, y9, y10, y11, y12, y13, y14, y15, y16, y17, y18, y19, y20, y21, y22, y23, y24, y25, y26, y27, y28, y29, y30⟩ := hSw; go_simp <;> with_reducible rfl) ?_
  simp only [Act.put, List.setIfInBounds_toArray, List.set_cons_zero, List.set_cons_succ]
  refine wpAnyL_take (i := 40) 233 (v := .pointer (some ⟨ub, uo, none⟩)) rfl rfl (by kernel_rfl) (by kernel_rfl) (by kernel_rfl) (by kernel_rfl) (by kernel_rfl) (by kernel_rfl) (fun _ _ _ h => h) hS (by rfl) (by intro w' hSw; obtain ⟨y0, y1, y2, y3, y4, y5, y6, y7, y8, y9, y10, y11, y12, y13, y14, y15, y16, y17, y18, y19, y20, y21, y22, y23, y24, y25, y26, y27, y28, y29, y30⟩ := hSw; go_simp <;> with_reducible rfl) ?_
  simp only [Act.put, List.setIfInBounds_toArray, List.set_cons_zero, List.set_cons_succ]
  refine wpAnyL_take (i := 41) 234 (v := .int .i64 (c0 : Nat)) rfl rfl (by kernel_rfl) (by kernel_rfl) (by kernel_rfl) (by kernel_rfl) (by kernel_rfl) (by kernel_rfl) (fun _ _ _ h => h) hS (by rfl) (by intro w' hSw; obtain ⟨y0, y1, y2, y3, y4, y5, y6, y7, y8, y9, y10, y11, y12, y13, y14, y15, y16, y17, y18, y19, y20, y21, y22, y23, y24, y25, y26, y27, y28, y29, y30⟩ := hSw; go_simp <;> with_reducible rfl) ?_
  simp only [Act.put, List.setIfInBounds_toArray, List.set_cons_zero, List.set_cons_succ]
  refine wpAnyL_take (i := 42) 235 (v := .pointer (some ⟨gt, 4, none⟩)) rfl rfl (by kernel_rfl) (by kernel_rfl) (by kernel_rfl) (by kernel_rfl) (by kernel_rfl) (by kernel_rfl) (fun _ _ _ h => h) hS (by rfl) (by intro w' hSw; obtain ⟨y0, y1, y2, y3, y4, y5, y6, y7, y8, y9, y10, y11, y12, y13, y14, y15, y16, y17, y18, y19, y20, y21, y22, y23, y24, y25, y26, y27, y28, y29, y30⟩ := hSw; go_simp <;> with_reducible rfl) ?_
  simp only [Act.put, List.setIfInBounds_toArray, List.set_cons_zero, List.set_cons_succ]
  refine wpAnyL_take (i := 43) 236 (v := .slice (some ⟨q5, 0, none⟩) 1 1) rfl rfl (by kernel_rfl) (by kernel_rfl) (by kernel_rfl) (by kernel_rfl) (by kernel_rfl) (by kernel_rfl) (fun _ _ _ h => h) hS (by rfl) (by intro w' hSw; obtain ⟨y0, y1, y2, y3, y4, y5, y6, y7, y8, y9, y10, y11, y12, y13, y14, y15, y16, y17, y18, y19, y20, y21, y22, y23, y24, y25, y26, y27, y28, y29, y30⟩ := hSw; go_simp <;> with_reducible rfl) ?_
  simp only [Act.put, List.setIfInBounds_toArray, List.set_cons_zero, List.set_cons_succ]
  refine wpAnyL_take (i := 44) 237 (v := .pointer (some ⟨q5, 0, none⟩)) rfl rfl (by kernel_rfl) (by kernel_rfl) (by kernel_rfl) (by kernel_rfl) (by kernel_rfl) (by kernel_rfl) (fun _ _ _ h => h) hS (by rfl) (by intro w' hSw; obtain ⟨y0, y1, y2, y3, y4, y5, y6, y7, y8, y9, y10, y11, y12, y13, y14, y15, y16, y17, y18, y19, y20, y21, y22, y23, y24, y25, y26, y27, y28, y29, y30⟩ := hSw; go_simp <;> with_reducible rfl) ?_
  simp only [Act.put, List.setIfInBounds_toArray, List.set_cons_zero, List.set_cons_succ]
  refine wpAnyL_take (i := 45) 238 (v := .int .i64 (c0 : Nat)) rfl rfl (by kernel_rfl) (by kernel_rfl) (by kernel_rfl) (by kernel_rfl) (by kernel_rfl) (by kernel_rfl) (fun _ _ _ h => h) hS (by rfl) (by intro w' hSw; obtain ⟨y0, y1, y2, y3, y4, y5, y6, y7, y8, y9, y10, y11, y12, y13, y14, y15, y16, y17, y18, y19, y20, y21, y22, y23, y24, y25, y26, y27, y28, y29, y30⟩ := hSw; go_simp <;> with_reducible rfl) ?_
  simp only [Act.put, List.setIfInBounds_toArray, List.set_cons_zero, List.set_cons_succ]
  refine wpAnyL_take (i := 46) 239 (v := .bool true) rfl rfl (by kernel_rfl) (by kernel_rfl) (by kernel_rfl) (by kernel_rfl) (by kernel_rfl) (by kernel_rfl) (fun _ _ _ h => h) hS (by rfl) (by intro w' hSw; obtain ⟨y0, y1, y2, y3, y4, y5, y6, y7, y8, y9, y10, y11, y12, y13, y14, y15, y16, y17, y18, y19, y20, y21, y22, y23, y24, y25, y26, y27, y28, y29, y30⟩ := hSw; go_simp <;> with_reducible rfl) ?_
  simp only [Act.put, List.setIfInBounds_toArray, List.set_cons_zero, List.set_cons_succ]
  refine wpAnyL_take (i := 47) 240 (v := .bool true) rfl rfl (by kernel_rfl) (by kernel_rfl) (by kernel_rfl) (by kernel_rfl) (by kernel_rfl) (by kernel_rfl) (fun _ _ _ h => h) hS (by rfl) (by intro w' hSw; obtain ⟨y0, y1, y2, y3, y4, y5, y6, y7, y8, y9, y10, y11, y12, y13, y14, y15, y16, y17, y18, y19, y20, y21, y22, y23, y24, y25, y26, y27, y28, y29, y30⟩ := hSw; go_simp <;> with_reducible rfl) ?_
  simp only [Act.put, List.setIfInBounds_toArray, List.set_cons_zero, List.set_cons_succ]
  refine wpAnyL_take (i := 48) 241 (v := .bool true) rfl rfl (by kernel_rfl) (by kernel_rfl) (by kernel_rfl) (by kernel_rfl) (by kernel_rfl) (by kernel_rfl) (fun _ _ _ h => h) hS (by rfl) (by intro w' hSw; obtain ⟨y0, y1, y2, y3, y4, y5, y6, y7, y8, y9, y10, y11, y12, y13, y14, y15, y16, y17, y18, y19, y20, y21, y22, y23, y24, y25, y26, y27, y28, y29, y30⟩ := hSw; go_simp <;> with_reducible rfl) ?_
  simp only [Act.put, List.setIfInBounds_toArray, List.set_cons_zero, List.set_cons_succ]
  refine wpAnyL_take (i := 49) 242 (v := .pointer (some ⟨gu, 12, none⟩)) rfl rfl (by kernel_rfl) (by kernel_rfl) (by kernel_rfl) (by kernel_rfl) (by kernel_rfl) (by kernel_rfl) (fun _ _ _ h => h) hS (by rfl) (by intro w' hSw; obtain ⟨y0, y1, y2, y3, y4, y5, y6, y7, y8, y9, y10, y11, y12, y13, y14, y15, y16, y17, y18, y19, y20, y21, y22, y23, y24, y25, y26, y27, y28, y29, y30⟩ := hSw; go_simp <;> with_reducible rfl) ?_
  simp only [Act.put, List.setIfInBounds_toArray, List.set_cons_zero, List.set_cons_succ]
  refine wpAnyL_take (i := 50) 243 (v := .agg #[.bool (oh o 0), .bool (oh o 1), .bool (oh o 2), .bool (oh o 3), .bool (oh o 4), .int .i64 (ov o 0), .int .i64 (ov o 1), .int .i64 (ov o 2), .int .i64 (ov o 3), .int .i64 (ov o 4)]) rfl rfl (by kernel_rfl) (by kernel_rfl) (by kernel_rfl) (by kernel_rfl) (by kernel_rfl) (by kernel_rfl) (fun _ _ _ h => h) hS (by rfl) (by intro w' hSw; obtain ⟨y0, y1, y2, y3, y4, y5, y6, y7, y8, y9, y10, y11, y12, y13, y14, y15, y16, y17, y18, y19, y20, y21, y22, y23, y24, y25, y26, y27, y28, y29, y30⟩ := hSw; go_simp <;> with_reducible rfl) ?_
  simp only [Act.put, List.setIfInBounds_toArray, List.set_cons_zero, List.set_cons_succ]
  refine wpAnyL_take (i := 51) 244 (v := .pointer (some ⟨gt, 12, none⟩)) rfl rfl (by kernel_rfl) (by kernel_rfl) (by kernel_rfl) (by kernel_rfl) (by kernel_rfl) (by kernel_rfl) (fun _ _ _ h => h) hS (by rfl) (by intro w' hSw; obtain ⟨y0, y1, y2, y3, y4, y5, y6, y7, y8, y9, y10, y11, y12, y13, y14, y15, y16, y17, y18, y19, y20, y21, y22, y23, y24, y25, y26, y27, y28, y29, y30⟩ := hSw; go_simp <;> with_reducible rfl) ?_
  simp only [Act.put, List.setIfInBounds_toArray, List.set_cons_zero, List.set_cons_succ]
  refine wpAnyL_take (i := 52) 245 (v := .agg #[.bool (oh o 0), .bool (oh o 1), .bool (oh o 2), .bool (oh o 3), .bool (oh o 4), .int .i64 (ov o 0), .int .i64 (ov o 1), .int .i64 (ov o 2), .int .i64 (ov o 3), .int .i64 (ov o 4)]) rfl rfl (by kernel_rfl) (by kernel_rfl) (by kernel_rfl) (by kernel_rfl) (by kernel_rfl) (by kernel_rfl) (fun _ _ _ h => h) hS (by rfl) (by intro w' hSw; obtain ⟨y0, y1, y2, y3, y4, y5, y6, y7, y8, y9, y10, y11, y12, y13, y14, y15, y16, y17, y18, y19, y20, y21, y22, y23, y24, y25, y26, y27, y28, y29, y30⟩ := hSw; go_simp <;> with_reducible rfl) ?_
  simp only [Act.put, List.setIfInBounds_toArray, List.set_cons_zero, List.set_cons_succ]
  refine wpAnyL_take (i := 53) 246 (v := .bool true) rfl rfl (by kernel_rfl) (by kernel_rfl) (by kernel_rfl) (by kernel_rfl) (by kernel_rfl) (by kernel_rfl) (fun _ _ _ h => h) hS (by rfl) (by intro w' hSw; obtain ⟨y0, y1, y2, y3, y4, y5, y6, y7, y8, y9, y10, y11, y12, y13, y14, y15, y16, y17, y18, y19, y20, y21, y22, y23, y24, y25, y26, y27, y28, y29, y30⟩ := hSw; go_simp <;> with_reducible rfl) ?_
  simp only [Act.put, List.setIfInBounds_toArray, List.set_cons_zero, List.set_cons_succ]
  refine wpAnyL_take (i := 54) 247 (v := .bool true) rfl rfl (by kernel_rfl) (by kernel_rfl) (by kernel_rfl) (by kernel_rfl) (by kernel_rfl) (by kernel_rfl) (fun _ _ _ h => h) hS (by rfl) (by intro w' hSw; obtain ⟨y0, y1, y2, y3, y4, y5, y6, y7, y8, y9, y10, y11, y12, y13, y14, y15, y16, y17, y18, y19, y20, y21, y22, y23, y24, y25, y26, y27, y28, y29, y30⟩ := hSw; go_simp <;> with_reducible rfl) ?_
  simp only [Act.put, List.setIfInBounds_toArray, List.set_cons_zero, List.set_cons_succ]
  refine wpAnyL_take (i := 55) 6 (v := .bool true) rfl rfl (by kernel_rfl) (by kernel_rfl) (by kernel_rfl) (by kernel_rfl) (by kernel_rfl) (by kernel_rfl) (fun _ _ _ h => h) hS (by rfl) (by intro w' hSw; obtain ⟨y0, y1, y2, y3, y4, y5, y6, y7, y8, y9, y10, y11, y12, y13, y14, y15, y16, y17, y18, y19, y20, y21, y22, y23, y24, y25, y26, y27, y28, y29, y30⟩ := hSw; go_simp <;> with_reducible rfl) ?_
  simp only [Act.put, List.setIfInBounds_toArray, List.set_cons_zero, List.set_cons_succ]
  refine wpAnyL_done (by kernel_rfl) ?_ _
  go_wp2
  exact HH.out _ _ _ _ _ _ _ _ _ _ _ _ _ _ _ _ _ _ _ _ _ _ _ _ _ _ _ _ _ _ _ _ _ _ _ _ _ _ _ _ _ _ _ _ _ _ _ _ _ _ _ _ _ _ _ _ _ _ _ _ _ _ _ _ _ _ _ _ _ _ _ _ _ _ HUx.out.m.lo
end Go.Proofs.YtidghoipmggklaaGreat
end
