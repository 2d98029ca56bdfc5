import Derived.Test.YthkfbaoeimjgaaaGreatJbTakeM
import Derived.Test.YthkfbaoeimjgaaaGreatMaWkM
import Derived.Test.YthkfbaoeimjgaaaGreatStrM
import Derived.Test.YthkfbaoeimjgaaaGreatNumM
import Derived.Test.YthkfbaoeimjgaaaGreatProg
import Derived.Maps.AppendAt
import Derived.WalkKit
import Derived.OwnWalk
import Derived.Below
import Derived.Laws.CopyRow
import Derived.Test.YthkfbaoeimjgaaaGreatNumWM
section
/- run.DecodeJob: the job of bytes. -/
namespace Go.Proofs.YthkfbaoeimjgaaaGreat
open Go.RowKit
theorem takej_shape {w : World} {p : Nat} {s t : ByteArray} {a0 : Nat} {e0 : Int} {G : List Vx} {n : Nat} {ps : List Int} {st se pa a1 a2 a3 a4 a5 a6 a7 : Nat} {e1 e2 e3 e4 e5 e6 e7 ee : Int} (h : Rd w p s a0 e0) (hs : s.size ≤ maxLen) (ha : a0 ≤ s.size) (hJ : JR s a0 e0 t G n ps st se pa a1 a2 a3 a4 a5 a6 a7 e1 e2 e3 e4 e5 e6 e7) (he : jErr e7 t G ps st se pa = ee) :
    Calls Tryz.prog 17 #[.pointer (some ⟨p, 0, none⟩)] w fun r w' => (∃ t' go gn gc po pn pc st' se' pa', r = .returned (.agg #[.string t', .slice go gn gc, .slice po pn pc, .int .i64 st', .int .i64 se', .int .i64 pa'])) ∧ Rd w' p s a7 ee ∧ Fr w w' (fun k => k = p) := by
  refine (takej_any h hs ha hJ he).mono ?_
  rintro r w' ⟨⟨_, go, gc, po, pc, rfl, _, _⟩ | ⟨_, rfl⟩, h1, h2⟩
  · exact ⟨⟨_, _, _, _, _, _, _, _, _, _, rfl⟩, h1, h2⟩
  · exact ⟨⟨_, _, _, _, _, _, _, _, _, _, rfl⟩, h1, h2⟩
theorem takej_good {w : World} {p : Nat} {s t : ByteArray} {a0 : Nat} {e0 : Int} {G : List Vx} {n : Nat} {ps : List Int} {st se pa a1 a2 a3 a4 a5 a6 a7 : Nat} {e1 e2 e3 e4 e5 e6 e7 : Int} (h : Rd w p s a0 e0) (hs : s.size ≤ maxLen) (ha : a0 ≤ s.size) (hJ : JR s a0 e0 t G n ps st se pa a1 a2 a3 a4 a5 a6 a7 e1 e2 e3 e4 e5 e6 e7) (he : jErr e7 t G ps st se pa = 0) :
    Calls Tryz.prog 17 #[.pointer (some ⟨p, 0, none⟩)] w fun r w' => (∃ go gc po pc, r = .returned (.agg #[.string t, .slice go G.length gc, .slice po ps.length pc, .int .i64 (st : Int), .int .i64 (se : Int), .int .i64 (pa : Int)]) ∧ VxAt w' (fun k => w.heap.size ≤ k) go G ∧ IsP w' (fun k => w.heap.size ≤ k) po ps) ∧ Rd w' p s a7 0 ∧ Fr w w' (fun k => k = p) := by
  refine (takej_any h hs ha hJ he).mono ?_
  rintro r w' ⟨⟨_, go, gc, po, pc, rfl, h3, h4⟩ | ⟨h3, _⟩, h1, h2⟩
  · exact ⟨⟨_, _, _, _, rfl, h3, h4⟩, h1, h2⟩
  · exact absurd rfl h3
set_option maxRecDepth 100000 in
set_option maxHeartbeats 2000000 in
theorem decj_bad {w : World} {s t : ByteArray} {G : List Vx} {n : Nat} {ps : List Int} {st se pa a1 a2 a3 a4 a5 a6 a7 : Nat} {e1 e2 e3 e4 e5 e6 e7 ee ez : Int} (hs : s.size ≤ maxLen) (hJ : JR s 0 0 t G n ps st se pa a1 a2 a3 a4 a5 a6 a7 e1 e2 e3 e4 e5 e6 e7) (he : jErr e7 t G ps st se pa = ee) (hz : rdEnd s a7 ee = ez) (h0 : ¬ ez = 0) :
    Calls Tryz.prog 12 #[.string s] w fun r w' => r = .returned (.tuple #[.agg #[.string ByteArray.empty, .slice none 0 0, .slice none 0 0, .int .i64 0, .int .i64 0, .int .i64 0], .int .i64 ez]) ∧ Below w.heap.size w w' := by
  have hT := hJ.to (Nat.zero_le _)
  have HB7 : Hid _ := hT.b7
  have HJ : Hid _ := hJ
  have HE : Hid _ := he
  have HZ : Hid _ := hz
  have hzb : (ez != 0) = true := by simpa using h0
  clear hT hJ he hz
  go_enter Tryz.func12, Tryz.ntmps12
  go_upto_region 1 with (fail)
  generalize hW0 : World.alloc w _ = W0
  have hb0 : Below w.heap.size w W0 := by rw [← hW0]; exact one_new _ _
  have HR0 : Hid (JobBoxC W0 w.heap.size #[.string ByteArray.empty, .slice none 0 0, .slice none 0 0, .int .i64 0, .int .i64 0, .int .i64 0]) := by rw [← hW0]; exact heap_alloc_new _ _
  have HZ0 : Hid (W0.heap.size = w.heap.size + 1) := by show _ = _; rw [← hW0]; simp
  have HB0 : Hid _ := hb0
  clear hb0 hW0
  go_upto_region 2 with (go_at_call 15; refine (newreader_any _ _).mono ?_; rintro r w1 ⟨rfl, hr1, hb1⟩)
  have HR1 : Hid (Rd w1 W0.heap.size s ((0 : Nat) : Int) 0) := hr1
  have HB1 : Hid (Below W0.heap.size W0 w1) := hb1
  clear hr1 hb1
  go_upto_region 3 with (go_at_call 17; refine Calls.mono (takej_shape HR1.out hs (Nat.zero_le _) HJ.out HE.out) ?_; rintro r w2 ⟨⟨t', go, gn, gc, po, pn, pc, st', se', pa', rfl⟩, hr2, hf2⟩; have HR2 : Hid (Rd w2 W0.heap.size s a7 ee) := hr2; have HF2 : Hid (Fr w1 w2 (fun k => k = W0.heap.size)) := hf2; clear hr2 hf2)
  generalize hW3 : World.alloc w2 _ = W3
  have hb3 : Below w2.heap.size w2 W3 := by rw [← hW3]; exact one_new _ _
  have HR3 : Hid (Rd W3 W0.heap.size s a7 ee) := HR2.out.below hb3
  have HJ3 : Hid (JobBoxC W3 w.heap.size #[.string ByteArray.empty, .slice none 0 0, .slice none 0 0, .int .i64 0, .int .i64 0, .int .i64 0]) := jb_fr (Fr.ofBelow hb3 (fun _ => False)) (fun h => h) (jb_fr HF2.out (by have := HZ0.out; omega) (jb_fr (Fr.ofBelow HB1.out (fun _ => False)) (fun h => h) HR0.out))
  have HB3 : Hid (Below w.heap.size w W3) := by
    have h1 := HB0.out.trans (HB1.out.mono HB0.out.size)
    have h2 := h1.trans (HF2.out.below h1.size (fun k hk => by have := HZ0.out; omega))
    exact h2.trans (hb3.mono h2.size)
  clear hW3 hb3 HR2 HF2 HR0 HB0 HR1 HB1
  go_wp2_with (first
    | (go_at_call 48; refine (rend_to HR3.out hs HB7.out HZ.out).mono ?_; rintro r w7 ⟨rfl, _, hf7⟩; have HF7 : Hid (Fr W3 w7 (fun k => k = W0.heap.size)) := hf7; have HJ7 : Hid (JobBoxC w7 w.heap.size #[.string ByteArray.empty, .slice none 0 0, .slice none 0 0, .int .i64 0, .int .i64 0, .int .i64 0]) := jb_fr hf7 (by have := HZ0.out; omega) HJ3.out; clear hf7)
    | (refine wpList_store_row rfl 27 _ _ rfl w.heap.size #[.string ByteArray.empty, .slice none 0 0, .slice none 0 0, .int .i64 0, .int .i64 0, .int .i64 0] rfl rfl 27 #[.string ByteArray.empty, .slice none 0 0, .slice none 0 0, .int .i64 0, .int .i64 0, .int .i64 0] HJ7.out size_jobJ rfl (by simp [Value.oneCell']) ?_))
  refine bodyPost_ret (v := .tuple #[.agg #[.string ByteArray.empty, .slice none 0 0, .slice none 0 0, .int .i64 0, .int .i64 0, .int .i64 0], .int .i64 ez]) (res_ctJ Tryz.results12 _ _ w.heap.size 27 _ (0, 0) _ rfl (setRow_heap _ _ _ _ _ _ HJ7.out) Tryz.underlying27 rfl size_jobJ) rfl ?_
  have hl7 : Below w.heap.size w w7 := HB3.out.trans (HF7.out.below HB3.out.size (fun k hk => by have := HZ0.out; omega))
  exact ⟨rfl, k_setRow hl7 (Nat.le_refl _) _⟩
set_option maxRecDepth 100000 in
set_option maxHeartbeats 2000000 in
theorem decj_good {w : World} {s t : ByteArray} {G : List Vx} {n : Nat} {ps : List Int} {st se pa a1 a2 a3 a4 a5 a6 a7 : Nat} {e1 e2 e3 e4 e5 e6 e7 : Int} (hs : s.size ≤ maxLen) (hJ : JR s 0 0 t G n ps st se pa a1 a2 a3 a4 a5 a6 a7 e1 e2 e3 e4 e5 e6 e7) (he : jErr e7 t G ps st se pa = 0) (hz : rdEnd s a7 0 = 0) :
    Calls Tryz.prog 12 #[.string s] w fun r w' => (∃ go gc po pc, r = .returned (.tuple #[.agg #[.string t, .slice go G.length gc, .slice po ps.length pc, .int .i64 (st : Int), .int .i64 (se : Int), .int .i64 (pa : Int)], .int .i64 0]) ∧ VxAt w' (fun k => w.heap.size ≤ k) go G ∧ IsP w' (fun k => w.heap.size ≤ k) po ps) ∧ Below w.heap.size w w' := by
  have hT := hJ.to (Nat.zero_le _)
  have HB7 : Hid _ := hT.b7
  have HJ : Hid _ := hJ
  have HE : Hid _ := he
  have HZ : Hid _ := hz
  clear hT hJ he hz
  go_enter Tryz.func12, Tryz.ntmps12
  go_upto_region 1 with (fail)
  generalize hW0 : World.alloc w _ = W0
  have hb0 : Below w.heap.size w W0 := by rw [← hW0]; exact one_new _ _
  have HR0 : Hid (JobBoxC W0 w.heap.size #[.string ByteArray.empty, .slice none 0 0, .slice none 0 0, .int .i64 0, .int .i64 0, .int .i64 0]) := by rw [← hW0]; exact heap_alloc_new _ _
  have HZ0 : Hid (W0.heap.size = w.heap.size + 1) := by show _ = _; rw [← hW0]; simp
  have HB0 : Hid _ := hb0
  clear hb0 hW0
  go_upto_region 2 with (go_at_call 15; refine (newreader_any _ _).mono ?_; rintro r w1 ⟨rfl, hr1, hb1⟩)
  have HR1 : Hid (Rd w1 W0.heap.size s ((0 : Nat) : Int) 0) := hr1
  have HB1 : Hid (Below W0.heap.size W0 w1) := hb1
  clear hr1 hb1
  go_upto_region 3 with (go_at_call 17; refine Calls.mono (takej_good HR1.out hs (Nat.zero_le _) HJ.out HE.out) ?_; rintro r w2 ⟨⟨go, gc, po, pc, rfl, hV2, hP2⟩, hr2, hf2⟩; have HR2 : Hid (Rd w2 W0.heap.size s a7 0) := hr2; have HF2 : Hid (Fr w1 w2 (fun k => k = W0.heap.size)) := hf2; have HV2 : Hid (VxAt w2 (fun k => w1.heap.size ≤ k) go G) := hV2; have HP2 : Hid (IsP w2 (fun k => w1.heap.size ≤ k) po ps) := hP2; clear hr2 hf2 hV2 hP2)
  generalize hW3 : World.alloc w2 _ = W3
  have hb3 : Below w2.heap.size w2 W3 := by rw [← hW3]; exact one_new _ _
  have HR3 : Hid (Rd W3 W0.heap.size s a7 0) := HR2.out.below hb3
  have HX3 : Hid (JobBoxC W3 w2.heap.size #[.string t, .slice go G.length gc, .slice po ps.length pc, .int .i64 (st : Int), .int .i64 (se : Int), .int .i64 (pa : Int)]) := by rw [← hW3]; exact heap_alloc_new _ _
  have HJ3 : Hid (JobBoxC W3 w.heap.size #[.string ByteArray.empty, .slice none 0 0, .slice none 0 0, .int .i64 0, .int .i64 0, .int .i64 0]) := jb_fr (Fr.ofBelow hb3 (fun _ => False)) (fun h => h) (jb_fr HF2.out (by have := HZ0.out; omega) (jb_fr (Fr.ofBelow HB1.out (fun _ => False)) (fun h => h) HR0.out))
  have s1 := lt_of_block HR1.out
  have s2 := HF2.out.size
  have HV3 : Hid (VxAt W3 (fun k => w1.heap.size ≤ k) go G) := HV2.out.new hb3
  have HP3 : Hid (IsP W3 (fun k => w1.heap.size ≤ k) po ps) := HP2.out.new hb3
  have HB3 : Hid (Below w.heap.size w W3) := by
    have h1 := HB0.out.trans (HB1.out.mono HB0.out.size)
    have h2 := h1.trans (HF2.out.below h1.size (fun k hk => by have := HZ0.out; omega))
    exact h2.trans (hb3.mono h2.size)
  clear hW3 hb3 HR2 HF2 HR0 HB0 HR1 HB1 HV2 HP2
  go_wp2_with (first
    | (go_at_call 48; refine (rend_to HR3.out hs HB7.out HZ.out).mono ?_; rintro r w7 ⟨rfl, _, hf7⟩; have HF7 : Hid (Fr W3 w7 (fun k => k = W0.heap.size)) := hf7; have HJ7 : Hid (JobBoxC w7 w.heap.size #[.string ByteArray.empty, .slice none 0 0, .slice none 0 0, .int .i64 0, .int .i64 0, .int .i64 0]) := jb_fr hf7 (by have := HZ0.out; omega) HJ3.out; have HX7 : Hid (JobBoxC w7 w2.heap.size #[.string t, .slice go G.length gc, .slice po ps.length pc, .int .i64 (st : Int), .int .i64 (se : Int), .int .i64 (pa : Int)]) := jb_fr hf7 (by have := HZ0.out; omega) HX3.out; clear hf7)
    | (refine wpList_load_row rfl 27 _ rfl w2.heap.size rfl 27 #[.string t, .slice go G.length gc, .slice po ps.length pc, .int .i64 (st : Int), .int .i64 (se : Int), .int .i64 (pa : Int)] (0, 0) _ HX7.out Tryz.underlying27 rfl size_jobJ ?_)
    | (refine wpList_store_row rfl 27 _ _ rfl w.heap.size #[.string t, .slice go G.length gc, .slice po ps.length pc, .int .i64 (st : Int), .int .i64 (se : Int), .int .i64 (pa : Int)] rfl rfl 27 #[.string ByteArray.empty, .slice none 0 0, .slice none 0 0, .int .i64 0, .int .i64 0, .int .i64 0] HJ7.out size_jobJ rfl (by simp [Value.oneCell']) ?_))
  refine bodyPost_ret (v := .tuple #[.agg #[.string t, .slice go G.length gc, .slice po ps.length pc, .int .i64 (st : Int), .int .i64 (se : Int), .int .i64 (pa : Int)], .int .i64 0]) (res_ctJ Tryz.results12 _ _ w.heap.size 27 _ (0, 0) _ rfl (setRow_heap _ _ _ _ _ _ HJ7.out) Tryz.underlying27 rfl size_jobJ) rfl ?_
  have hl7 : Below w.heap.size w w7 := HB3.out.trans (HF7.out.below HB3.out.size (fun k hk => by have := HZ0.out; omega))
  have fS := fr_setRow w7 w.heap.size #[.string t, .slice go G.length gc, .slice po ps.length pc, .int .i64 (st : Int), .int .i64 (se : Int), .int .i64 (pa : Int)]
  refine ⟨⟨go, gc, po, pc, rfl, ?_, ?_⟩, k_setRow hl7 (Nat.le_refl _) _⟩
  · exact (HV3.out.kept HF7.out (Q := fun k => w1.heap.size ≤ k) (fun k _ hk => ⟨by have := HZ0.out; omega, hk⟩)).kept fS (fun k _ hk => ⟨by have := HZ0.out; omega, by have := HZ0.out; omega⟩)
  · exact (HP3.out.kept HF7.out (Q := fun k => w1.heap.size ≤ k) (fun k _ hk => ⟨by have := HZ0.out; omega, hk⟩)).kept fS (fun k _ hk => ⟨by have := HZ0.out; omega, by have := HZ0.out; omega⟩)
end Go.Proofs.YthkfbaoeimjgaaaGreat
end

section
/- Masters that have no job: Apply of who joins, and who is lost. -/
namespace Go.Proofs.YthkfbaoeimjgaaaGreat
open Go.RowKit Go.Maps
attribute [local go_sem] Oper.semAt_some
theorem size_reply : (Tryz.prog.info? 62).map (·.size) = some 2 := by kernel_rfl
theorem ap_setRow (w : World) (g : Nat) (cs : Array Value) : Fr w (w.setRow g cs) (fun k => k = g) := ⟨rfl, rfl, rfl, by simp, fun k _ hn => setRow_other w g k cs hn⟩
/-- What a call on workers leaves: the master, others' blocks. -/
def PoJ (w w' : World) (p : Nat) (ax : Value) (mb : Option Nat) (ep : Int) (M' : List Pz) : Prop := ∃ mb', MaBox w' p ax mb' (.slice none 0 0) ep (.pointer none) M' ∧ Fr w w' (MaB p mb) ∧ ∀ b, mb' = some b → mb = some b ∨ w.heap.size ≤ b
theorem re_kept_join {w w' : World} {p g : Nat} {ax : Value} {mb : Option Nat} {ep : Int} {M' : List Pz} {o : Obj} (h : PoJ w w' p ax mb ep M') (hr : w.heap[g]? = some o) (hp : g ≠ p) (hb : ∀ b, mb = some b → b ≠ g) : w'.heap[g]? = some o := by
  obtain ⟨mb', h1, h2, h3⟩ := h
  refine (h2.block g (ma_lt hr) ?_).trans hr
  rintro (e | e)
  · exact hp e
  · exact hb g e rfl
theorem ap_end_join {w W w' : World} {p g : Nat} {ax : Value} {mb : Option Nat} {ep : Int} {M' : List Pz} (hB : Below w.heap.size w W) (h : PoJ W w' p ax mb ep M') (hp : p < w.heap.size) (_ : ∀ b, mb = some b → b < w.heap.size) (hg : w.heap.size ≤ g) (cs : Array Value) (hn : ∀ es c, w'.heap[g]? ≠ some (.map es c)) : PoJ w (w'.setRow g cs) p ax mb ep M' := by
  obtain ⟨mb', h1, h2, h3⟩ := h
  have f1 := ap_setRow w' g cs
  refine ⟨mb', h1.kept f1 (fun e => by omega) (fun b hb2 e => ?_), ((Fr.ofBelow hB (MaB p mb)).trans h2 (fun _ _ h => h)).trans f1 (fun k hk e => by omega), fun b hb2 => ?_⟩
  · subst e
    subst hb2
    obtain ⟨es, c, hm⟩ := WMap.isMap h1.wk
    exact hn es c hm
  · rcases h3 b hb2 with h | h
    · exact .inl h
    · exact .inr (Nat.le_trans hB.size h)
set_option maxRecDepth 100000 in
set_option maxHeartbeats 2000000 in
theorem mapply_join {w : World} {p : Nat} {ax : Value} {mb : Option Nat} {ep : Int} {M : List Pz} (h : MaBox w p ax mb (.slice none 0 0) ep (.pointer none) M) (hl : M.length ≤ 999999) {x l : Int} (hx : W6 x) (hl6 : W6 l) (q1 q2 q3 q4 r0 r1 r2 r3 r4 r5 r6 r7 r8 r9 r10 r11 r12 r13 r14 r15 r16 r17 r18 r19 : Value) :
    Calls Tryz.prog 21 #[.pointer (some ⟨p, 0, none⟩), .agg #[.int .i64 3, q1, q2, q3, q4, .int .i64 x, .int .i64 l, r0, r1, r2, r3, r4, r5, r6, r7, r8, r9, r10, r11, r12, r13, r14, r15, r16, r17, r18, r19]] w fun r w' => r = .returned (.tuple #[.agg #[.int .i64 0, .int .i64 0], .int .i64 0]) ∧ PoJ w w' p ax mb ep (joinP M x l) := by
  have HA : Hid (MaBox w p ax mb (.slice none 0 0) ep (.pointer none) M) := h
  have HC : Hid (∀ W, Below w.heap.size w W → Calls Tryz.prog 73 #[.pointer (some ⟨p, 0, none⟩), .int .i64 x, .int .i64 l] W fun r w' => r = .returned (.tuple #[]) ∧ PoJ W w' p ax mb ep (joinP M x l)) := fun W hb => mjoin_idle (h.new hb) hl hx hl6
  obtain ⟨W0, hW0⟩ : ∃ W0, w.alloc (.cells #[.pointer (some ⟨p, 0, none⟩)] 60) = W0 := ⟨_, rfl⟩
  obtain ⟨W1, hW1⟩ : ∃ W1, W0.alloc (.cells #[.int .i64 3, q1, q2, q3, q4, .int .i64 x, .int .i64 l, r0, r1, r2, r3, r4, r5, r6, r7, r8, r9, r10, r11, r12, r13, r14, r15, r16, r17, r18, r19] 59) = W1 := ⟨_, rfl⟩
  obtain ⟨W2, hW2⟩ : ∃ W2, W1.alloc (.cells #[.int .i64 0, .int .i64 0] 62) = W2 := ⟨_, rfl⟩
  have b0 : Below w.heap.size w W0 := by rw [← hW0]; exact ma_new _ _
  have b1 : Below W0.heap.size W0 W1 := by rw [← hW1]; exact ma_new _ _
  have b2 : Below W1.heap.size W1 W2 := by rw [← hW2]; exact ma_new _ _
  have s0 : W0.heap.size = w.heap.size + 1 := by rw [← hW0]; simp
  have s1 : W1.heap.size = w.heap.size + 2 := by rw [← hW1, World.size_alloc, s0]
  have k0 := heap_alloc_new w (.cells #[.pointer (some ⟨p, 0, none⟩)] 60)
  rw [hW0] at k0
  have k1 := heap_alloc_new W0 (.cells #[.int .i64 3, q1, q2, q3, q4, .int .i64 x, .int .i64 l, r0, r1, r2, r3, r4, r5, r6, r7, r8, r9, r10, r11, r12, r13, r14, r15, r16, r17, r18, r19] 59)
  rw [hW1] at k1
  have k2 := heap_alloc_new W1 (.cells #[.int .i64 0, .int .i64 0] 62)
  rw [hW2] at k2
  obtain ⟨gc, hgc⟩ : ∃ gc, W0.heap.size = gc := ⟨_, rfl⟩
  obtain ⟨gr, hgr⟩ : ∃ gr, W1.heap.size = gr := ⟨_, rfl⟩
  rw [hgc] at k1
  rw [hgr] at k2
  have HGr : Hid (gr = w.heap.size + 2) := by show _ = _; omega
  have k0' : W2.heap[w.heap.size]? = some (.cells #[.pointer (some ⟨p, 0, none⟩)] 60 (0, 0)) := (b2.block _ (by omega)).trans ((b1.block _ (by omega)).trans k0)
  have k1' : W2.heap[gc]? = some (.cells #[.int .i64 3, q1, q2, q3, q4, .int .i64 x, .int .i64 l, r0, r1, r2, r3, r4, r5, r6, r7, r8, r9, r10, r11, r12, r13, r14, r15, r16, r17, r18, r19] 59 (0, 0)) := (b2.block _ (by omega)).trans k1
  have c0 : W2.cell? ⟨w.heap.size, 0, none⟩ = some (.pointer (some ⟨p, 0, none⟩)) := by simp [World.cell?, k0']
  have c1 : W2.cell? ⟨gc, 0, none⟩ = some (.int .i64 3) := by simp [World.cell?, k1']
  have c5 : W2.cell? ⟨gc, 5, none⟩ = some (.int .i64 x) := by simp [World.cell?, k1']
  have c6 : W2.cell? ⟨gc, 6, none⟩ = some (.int .i64 l) := by simp [World.cell?, k1']
  have HB : Hid (Below w.heap.size w W2) := (b0.trans (b1.mono b0.size)).trans (b2.mono (by omega))
  have HRe : Hid (W2.heap[gr]? = some (.cells #[.int .i64 0, .int .i64 0] 62 (0, 0))) := k2
  have HLt : Hid (p < w.heap.size ∧ ∀ b, mb = some b → b < w.heap.size) := ⟨h.lt, fun b hb => by subst hb; exact WkAt.lt h.wk⟩
  have hC := HC.out W2 HB.out
  clear h b0 b1 b2 k0 k1 k2 k0' k1' s0 s1
  go_enter Tryz.func21, Tryz.ntmps21
  go_upto_region 1 with (fail)
  clear hW0 hW1 hW2 hgc hgr
  obtain ⟨g, hg⟩ : ∃ g, w.heap.size = g := ⟨_, rfl⟩
  have HG : Hid (w.heap.size = g) := hg
  rw [hg] at c0 ⊢
  clear hg
  go_wp2_with (first
    | (go_at_call 73; refine hC.mono ?_; rintro r w4 ⟨rfl, HPo⟩; have HPo2 : Hid _ := HPo; have HRe4 : Hid (w4.heap[gr]? = some (.cells #[.int .i64 0, .int .i64 0] 62 (0, 0))) := re_kept_join HPo HRe.out (by have := HLt.out.1; have := HGr.out; omega) (fun b hb => by have := HLt.out.2 b hb; have := HGr.out; omega); clear HPo)
    | (refine wpList_store_row rfl 62 _ _ rfl gr #[.int .i64 0, .int .i64 0] rfl rfl 62 #[.int .i64 0, .int .i64 0] HRe4.out size_reply rfl (by simp [Value.oneCell']) ?_))
  refine bodyPost_ret (v := .tuple #[.agg #[.int .i64 0, .int .i64 0], .int .i64 0]) (res_ctJ Tryz.results21 _ _ gr 62 _ (0, 0) _ rfl (setRow_heap _ _ _ _ _ _ HRe4.out) Tryz.underlying62 rfl size_reply) rfl ?_
  refine ⟨rfl, ap_end_join HB.out HPo2.out HLt.out.1 HLt.out.2 (by have := HGr.out; omega) _ (fun es c e => by rw [HRe4.out] at e; cases e)⟩
set_option maxRecDepth 100000 in
set_option maxHeartbeats 2000000 in
theorem mapply_lose {w : World} {p : Nat} {ax : Value} {mb : Option Nat} {ep : Int} {M : List Pz} (h : MaBox w p ax mb (.slice none 0 0) ep (.pointer none) M) {x l : Int} (hx : W6 x) (q1 q2 q3 q4 r0 r1 r2 r3 r4 r5 r6 r7 r8 r9 r10 r11 r12 r13 r14 r15 r16 r17 r18 r19 : Value) :
    Calls Tryz.prog 21 #[.pointer (some ⟨p, 0, none⟩), .agg #[.int .i64 4, q1, q2, q3, q4, .int .i64 x, .int .i64 l, r0, r1, r2, r3, r4, r5, r6, r7, r8, r9, r10, r11, r12, r13, r14, r15, r16, r17, r18, r19]] w fun r w' => r = .returned (.tuple #[.agg #[.int .i64 0, .int .i64 0], .int .i64 0]) ∧ PoJ w w' p ax mb ep (loseP M x l) := by
  have HA : Hid (MaBox w p ax mb (.slice none 0 0) ep (.pointer none) M) := h
  have HC : Hid (∀ W, Below w.heap.size w W → Calls Tryz.prog 74 #[.pointer (some ⟨p, 0, none⟩), .int .i64 x, .int .i64 l] W fun r w' => r = .returned (.tuple #[]) ∧ PoJ W w' p ax mb ep (loseP M x l)) := fun W hb => (mlose_idle (h.new hb) hx).mono (fun r w' h => ⟨h.1, mb, h.2.1, h.2.2, fun b hb => .inl hb⟩)
  obtain ⟨W0, hW0⟩ : ∃ W0, w.alloc (.cells #[.pointer (some ⟨p, 0, none⟩)] 60) = W0 := ⟨_, rfl⟩
  obtain ⟨W1, hW1⟩ : ∃ W1, W0.alloc (.cells #[.int .i64 4, q1, q2, q3, q4, .int .i64 x, .int .i64 l, r0, r1, r2, r3, r4, r5, r6, r7, r8, r9, r10, r11, r12, r13, r14, r15, r16, r17, r18, r19] 59) = W1 := ⟨_, rfl⟩
  obtain ⟨W2, hW2⟩ : ∃ W2, W1.alloc (.cells #[.int .i64 0, .int .i64 0] 62) = W2 := ⟨_, rfl⟩
  have b0 : Below w.heap.size w W0 := by rw [← hW0]; exact ma_new _ _
  have b1 : Below W0.heap.size W0 W1 := by rw [← hW1]; exact ma_new _ _
  have b2 : Below W1.heap.size W1 W2 := by rw [← hW2]; exact ma_new _ _
  have s0 : W0.heap.size = w.heap.size + 1 := by rw [← hW0]; simp
  have s1 : W1.heap.size = w.heap.size + 2 := by rw [← hW1, World.size_alloc, s0]
  have k0 := heap_alloc_new w (.cells #[.pointer (some ⟨p, 0, none⟩)] 60)
  rw [hW0] at k0
  have k1 := heap_alloc_new W0 (.cells #[.int .i64 4, q1, q2, q3, q4, .int .i64 x, .int .i64 l, r0, r1, r2, r3, r4, r5, r6, r7, r8, r9, r10, r11, r12, r13, r14, r15, r16, r17, r18, r19] 59)
  rw [hW1] at k1
  have k2 := heap_alloc_new W1 (.cells #[.int .i64 0, .int .i64 0] 62)
  rw [hW2] at k2
  obtain ⟨gc, hgc⟩ : ∃ gc, W0.heap.size = gc := ⟨_, rfl⟩
  obtain ⟨gr, hgr⟩ : ∃ gr, W1.heap.size = gr := ⟨_, rfl⟩
  rw [hgc] at k1
  rw [hgr] at k2
  have HGr : Hid (gr = w.heap.size + 2) := by show _ = _; omega
  have k0' : W2.heap[w.heap.size]? = some (.cells #[.pointer (some ⟨p, 0, none⟩)] 60 (0, 0)) := (b2.block _ (by omega)).trans ((b1.block _ (by omega)).trans k0)
  have k1' : W2.heap[gc]? = some (.cells #[.int .i64 4, q1, q2, q3, q4, .int .i64 x, .int .i64 l, r0, r1, r2, r3, r4, r5, r6, r7, r8, r9, r10, r11, r12, r13, r14, r15, r16, r17, r18, r19] 59 (0, 0)) := (b2.block _ (by omega)).trans k1
  have c0 : W2.cell? ⟨w.heap.size, 0, none⟩ = some (.pointer (some ⟨p, 0, none⟩)) := by simp [World.cell?, k0']
  have c1 : W2.cell? ⟨gc, 0, none⟩ = some (.int .i64 4) := by simp [World.cell?, k1']
  have c5 : W2.cell? ⟨gc, 5, none⟩ = some (.int .i64 x) := by simp [World.cell?, k1']
  have c6 : W2.cell? ⟨gc, 6, none⟩ = some (.int .i64 l) := by simp [World.cell?, k1']
  have HB : Hid (Below w.heap.size w W2) := (b0.trans (b1.mono b0.size)).trans (b2.mono (by omega))
  have HRe : Hid (W2.heap[gr]? = some (.cells #[.int .i64 0, .int .i64 0] 62 (0, 0))) := k2
  have HLt : Hid (p < w.heap.size ∧ ∀ b, mb = some b → b < w.heap.size) := ⟨h.lt, fun b hb => by subst hb; exact WkAt.lt h.wk⟩
  have hC := HC.out W2 HB.out
  clear h b0 b1 b2 k0 k1 k2 k0' k1' s0 s1
  go_enter Tryz.func21, Tryz.ntmps21
  go_upto_region 1 with (fail)
  clear hW0 hW1 hW2 hgc hgr
  obtain ⟨g, hg⟩ : ∃ g, w.heap.size = g := ⟨_, rfl⟩
  have HG : Hid (w.heap.size = g) := hg
  rw [hg] at c0 ⊢
  clear hg
  go_wp2_with (first
    | (go_at_call 74; refine hC.mono ?_; rintro r w4 ⟨rfl, HPo⟩; have HPo2 : Hid _ := HPo; have HRe4 : Hid (w4.heap[gr]? = some (.cells #[.int .i64 0, .int .i64 0] 62 (0, 0))) := re_kept_join HPo HRe.out (by have := HLt.out.1; have := HGr.out; omega) (fun b hb => by have := HLt.out.2 b hb; have := HGr.out; omega); clear HPo)
    | (refine wpList_store_row rfl 62 _ _ rfl gr #[.int .i64 0, .int .i64 0] rfl rfl 62 #[.int .i64 0, .int .i64 0] HRe4.out size_reply rfl (by simp [Value.oneCell']) ?_))
  refine bodyPost_ret (v := .tuple #[.agg #[.int .i64 0, .int .i64 0], .int .i64 0]) (res_ctJ Tryz.results21 _ _ gr 62 _ (0, 0) _ rfl (setRow_heap _ _ _ _ _ _ HRe4.out) Tryz.underlying62 rfl size_reply) rfl ?_
  refine ⟨rfl, ap_end_join HB.out HPo2.out HLt.out.1 HLt.out.2 (by have := HGr.out; omega) _ (fun es c e => by rw [HRe4.out] at e; cases e)⟩
end Go.Proofs.YthkfbaoeimjgaaaGreat
end

section
/- Sessions on plain data: rows sorted by sessions, where one stands, its last request, how one is put. -/
namespace Go.Proofs.YthkfbaoeimjgaaaGreat
/-- A session's last request. -/
structure Req where
  k : Int
  n : Int
  s : ByteArray
/-- Sessions rise. -/
def RiseQ (L : List Req) : Prop := L.Pairwise (fun x y => x.k < y.k)
/-- How many stand ahead. -/
def posR (L : List Req) (k : Int) : Nat := L.countP (fun x => decide (x.k < k))
def isR (L : List Req) (k : Int) : Bool := match L[posR L k]? with | some x => decide (x.k = k) | none => false
def lastR (L : List Req) (k : Int) : Req := match L[posR L k]? with | some x => (if x.k = k then x else ⟨k, 0, str []⟩) | none => ⟨k, 0, str []⟩
def putR (L : List Req) (a : Req) : List Req := if isR L a.k = true then L.set (posR L a.k) a else L.take (posR L a.k) ++ a :: L.drop (posR L a.k)
theorem posR_le (L : List Req) (k : Int) : posR L k ≤ L.length := List.countP_le_length
theorem posR_all {L : List Req} {k : Int} (h : ∀ x ∈ L, x.k < k) : posR L k = L.length := List.countP_eq_length.2 fun x hx => by simpa using h x hx
theorem posR_none {L : List Req} {k : Int} (h : ∀ x ∈ L, ¬ x.k < k) : posR L k = 0 := List.countP_eq_zero.2 fun x hx => by simpa using h x hx
/-- A place that parts the row is where it stands. -/
theorem posR_at {A C : List Req} {k : Int} (hA : ∀ x ∈ A, x.k < k) (hC : ∀ x ∈ C, ¬ x.k < k) : posR (A ++ C) k = A.length := by
  unfold posR
  rw [List.countP_append]
  have h1 := posR_all hA
  have h2 := posR_none hC
  unfold posR at h1 h2
  omega
theorem posR_parts {L : List Req} (h : RiseQ L) (k : Int) : (∀ x ∈ L.take (posR L k), x.k < k) ∧ (∀ x ∈ L.drop (posR L k), ¬ x.k < k) := by
  induction L with
  | nil => exact ⟨fun x hx => by simp at hx, fun x hx => by simp at hx⟩
  | cons a r ih =>
    obtain ⟨h1, h2⟩ := List.pairwise_cons.1 h
    by_cases ha : a.k < k
    · have e : posR (a :: r) k = posR r k + 1 := by
        unfold posR
        rw [List.countP_cons_of_pos (by simpa using ha)]
      rw [e]
      obtain ⟨i1, i2⟩ := ih h2
      exact ⟨fun x hx => by
        rw [List.take_succ_cons, List.mem_cons] at hx
        rcases hx with rfl | hx
        · exact ha
        · exact i1 x hx, fun x hx => i2 x (by simpa using hx)⟩
    · have hn : ∀ x ∈ a :: r, ¬ x.k < k := fun x hx => by
        rcases List.mem_cons.1 hx with rfl | hx
        · exact ha
        · have := h1 x hx
          omega
      rw [posR_none hn]
      exact ⟨fun x hx => by simp at hx, fun x hx => hn x (by simpa using hx)⟩
/-- A row is parted by a session: those below, itself if it is there, those above. -/
theorem parts {L : List Req} (h : RiseQ L) (k : Int) : (∃ A a C, L = A ++ a :: C ∧ a.k = k ∧ (∀ x ∈ A, x.k < k) ∧ (∀ x ∈ C, k < x.k)) ∨ (∃ A C, L = A ++ C ∧ (∀ x ∈ A, x.k < k) ∧ (∀ x ∈ C, k < x.k)) := by
  obtain ⟨h1, h2⟩ := posR_parts h k
  have e : L = L.take (posR L k) ++ L.drop (posR L k) := (List.take_append_drop _ _).symm
  generalize L.take (posR L k) = A at e h1
  generalize L.drop (posR L k) = C at e h2
  subst e
  have hC : RiseQ C := (List.pairwise_append.1 h).2.1
  cases C with
  | nil => exact .inr ⟨A, [], rfl, h1, fun x hx => by simp at hx⟩
  | cons a C =>
    have ha := h2 a (by simp)
    have hc := (List.pairwise_cons.1 hC).1
    by_cases e : a.k = k
    · exact .inl ⟨A, a, C, rfl, e, h1, fun x hx => by have := hc x hx; omega⟩
    · refine .inr ⟨A, a :: C, rfl, h1, fun x hx => ?_⟩
      rcases List.mem_cons.1 hx with rfl | hx
      · omega
      · have := hc x hx
        omega
section
variable {A C : List Req} {a : Req} {k : Int}
theorem in_pos (hA : ∀ x ∈ A, x.k < a.k) (hC : ∀ x ∈ C, a.k < x.k) : posR (A ++ a :: C) a.k = A.length :=
  posR_at hA fun x hx => by
    rcases List.mem_cons.1 hx with rfl | hx
    · omega
    · have := hC x hx
      omega
theorem in_is (hA : ∀ x ∈ A, x.k < a.k) (hC : ∀ x ∈ C, a.k < x.k) : isR (A ++ a :: C) a.k = true := by
  unfold isR
  rw [in_pos hA hC, List.getElem?_append_right (Nat.le_refl _)]
  simp
theorem in_last (hA : ∀ x ∈ A, x.k < a.k) (hC : ∀ x ∈ C, a.k < x.k) : lastR (A ++ a :: C) a.k = a := by
  unfold lastR
  rw [in_pos hA hC, List.getElem?_append_right (Nat.le_refl _)]
  simp
theorem out_pos (hA : ∀ x ∈ A, x.k < k) (hC : ∀ x ∈ C, k < x.k) : posR (A ++ C) k = A.length :=
  posR_at hA fun x hx => by have := hC x hx; omega
theorem out_is (hA : ∀ x ∈ A, x.k < k) (hC : ∀ x ∈ C, k < x.k) : isR (A ++ C) k = false := by
  unfold isR
  rw [out_pos hA hC, List.getElem?_append_right (Nat.le_refl _)]
  cases C with
  | nil => simp
  | cons c r =>
    have := hC c (by simp)
    simp
    omega
theorem out_last (hA : ∀ x ∈ A, x.k < k) (hC : ∀ x ∈ C, k < x.k) : lastR (A ++ C) k = ⟨k, 0, str []⟩ := by
  unfold lastR
  rw [out_pos hA hC, List.getElem?_append_right (Nat.le_refl _)]
  cases C with
  | nil => simp
  | cons c r =>
    have := hC c (by simp)
    simp
    intro h
    omega
end
theorem in_put {A C : List Req} {a b : Req} (hb : b.k = a.k) (hA : ∀ x ∈ A, x.k < a.k) (hC : ∀ x ∈ C, a.k < x.k) : putR (A ++ a :: C) b = A ++ b :: C := by
  unfold putR
  rw [hb, in_is hA hC, in_pos hA hC]
  simp
theorem out_put {A C : List Req} {a : Req} (hA : ∀ x ∈ A, x.k < a.k) (hC : ∀ x ∈ C, a.k < x.k) : putR (A ++ C) a = A ++ a :: C := by
  unfold putR
  rw [out_is hA hC, out_pos hA hC]
  simp
/-- What is put, by parts: a row that holds it between those below and those above. -/
theorem put_parts {L : List Req} (h : RiseQ L) (a : Req) : ∃ A C, putR L a = A ++ a :: C ∧ (∀ x ∈ A, x.k < a.k) ∧ (∀ x ∈ C, a.k < x.k) ∧ RiseQ A ∧ RiseQ C ∧ (∀ x ∈ A, x ∈ L) ∧ (∀ x ∈ C, x ∈ L) := by
  rcases parts h a.k with ⟨A, b, C, rfl, e, hA, hC⟩ | ⟨A, C, rfl, hA, hC⟩
  · rw [← e] at hA hC
    refine ⟨A, C, in_put e.symm hA hC, e ▸ hA, e ▸ hC, (List.pairwise_append.1 h).1, (List.pairwise_cons.1 (List.pairwise_append.1 h).2.1).2, fun x hx => by simp [hx], fun x hx => by simp [hx]⟩
  · exact ⟨A, C, out_put hA hC, hA, hC, (List.pairwise_append.1 h).1, (List.pairwise_append.1 h).2.1, fun x hx => by simp [hx], fun x hx => by simp [hx]⟩
theorem rise_parts {A C : List Req} {a : Req} (h1 : RiseQ A) (h2 : RiseQ C) (hA : ∀ x ∈ A, x.k < a.k) (hC : ∀ x ∈ C, a.k < x.k) : RiseQ (A ++ a :: C) :=
  List.pairwise_append.2 ⟨h1, List.pairwise_cons.2 ⟨hC, h2⟩, fun x hx y hy => by
    have := hA x hx
    rcases List.mem_cons.1 hy with rfl | hy
    · exact this
    · have := hC y hy
      omega⟩
theorem put_rise {L : List Req} (h : RiseQ L) (a : Req) : RiseQ (putR L a) := by
  obtain ⟨A, C, e, hA, hC, h1, h2, _⟩ := put_parts h a
  rw [e]
  exact rise_parts h1 h2 hA hC
theorem put_mem {L : List Req} (h : RiseQ L) {a x : Req} (hx : x ∈ putR L a) : x = a ∨ x ∈ L := by
  obtain ⟨A, C, e, _, _, _, _, h3, h4⟩ := put_parts h a
  rw [e] at hx
  rcases List.mem_append.1 hx with hx | hx
  · exact .inr (h3 x hx)
  · rcases List.mem_cons.1 hx with rfl | hx
    · exact .inl rfl
    · exact .inr (h4 x hx)
theorem put_last {L : List Req} (h : RiseQ L) (a : Req) : lastR (putR L a) a.k = a := by
  obtain ⟨A, C, e, hA, hC, _⟩ := put_parts h a
  rw [e]
  exact in_last hA hC
theorem put_put {L : List Req} (h : RiseQ L) {a b : Req} (e : b.k = a.k) : putR (putR L a) b = putR L b := by
  rcases parts h a.k with ⟨A, c, C, rfl, ec, hA, hC⟩ | ⟨A, C, rfl, hA, hC⟩
  · rw [← ec] at hA hC
    rw [in_put ec.symm hA hC, in_put (e.trans ec.symm) hA hC, in_put e (ec ▸ hA) (ec ▸ hC)]
  · rw [out_put hA hC, in_put e hA hC, out_put (e ▸ hA) (e ▸ hC)]
theorem put_len (L : List Req) (a : Req) : (putR L a).length = L.length + (if isR L a.k = true then 0 else 1) := by
  have := posR_le L a.k
  unfold putR
  split
  · rw [List.length_set]
    omega
  · rw [List.length_append, List.length_take, List.length_cons, List.length_drop]
    omega
theorem is_last {L : List Req} (h : RiseQ L) (h1 : ∀ x ∈ L, 1 ≤ x.n) (k : Int) : isR L k = true ↔ (lastR L k).n ≠ 0 := by
  rcases parts h k with ⟨A, c, C, rfl, rfl, hA, hC⟩ | ⟨A, C, rfl, hA, hC⟩
  · rw [in_is hA hC, in_last hA hC]
    have := h1 c (by simp)
    constructor
    · intro _; omega
    · intro _; rfl
  · rw [out_is hA hC, out_last hA hC]
    simp
/-- What Look tells. -/
def lookR (L : List Req) (k n : Int) : ByteArray × Bool × Int :=
  if n < 1 then (str [], false, 1)
  else if n = (lastR L k).n then ((lastR L k).s, true, 0)
  else if n < (lastR L k).n then (str [], false, 150)
  else if (lastR L k).n < n - 1 then (str [], false, 151)
  else if (lastR L k).n = 0 ∧ 64 ≤ L.length then (str [], false, 3)
  else (str [], false, 0)
/-- Whether a request is done. -/
def freshR (L : List Req) (k n : Int) : Prop := (lookR L k n).2.1 = false ∧ (lookR L k n).2.2 = 0
/-- A table as it may be. -/
structure Tab (L : List Req) : Prop where
  rise : RiseQ L
  one : ∀ x ∈ L, 1 ≤ x.n
  few : L.length ≤ 64
theorem Tab.nil : Tab [] := ⟨List.Pairwise.nil, fun x hx => by simp at hx, by simp⟩
theorem fresh_is {L : List Req} {k n : Int} (h : freshR L k n) : 1 ≤ n ∧ n = (lastR L k).n + 1 ∨ 1 ≤ n ∧ (lastR L k).n < n ∧ n - 1 ≤ (lastR L k).n := by
  unfold freshR lookR at h
  split at h
  · simp at h
  · split at h
    · simp at h
    · split at h
      · simp at h
      · split at h
        · simp at h
        · right
          omega
theorem Tab.put {L : List Req} (h : Tab L) {k n : Int} (s : ByteArray) (hf : freshR L k n) : Tab (putR L ⟨k, n, s⟩) := by
  have hn : 1 ≤ n := by rcases fresh_is hf with h | h <;> omega
  refine ⟨put_rise h.rise _, fun x hx => ?_, ?_⟩
  · rcases put_mem h.rise hx with rfl | hx
    · exact hn
    · exact h.one x hx
  · rw [put_len]
    have h64 := h.few
    split
    · omega
    · rename_i hi
      have h0 : (lastR L k).n = 0 := by
        have := (is_last h.rise h.one k)
        by_cases e : (lastR L k).n = 0
        · exact e
        · exact absurd (this.2 e) hi
      unfold freshR lookR at hf
      split at hf
      · simp at hf
      · split at hf
        · simp at hf
        · split at hf
          · simp at hf
          · split at hf
            · simp at hf
            · split at hf
              · simp at hf
              · rename_i h5
                omega
end Go.Proofs.YthkfbaoeimjgaaaGreat
end

section
/- Requests of sessions in memory: rows of three cells; appends; a copy of three-celled elements. -/
namespace Go.Proofs.YthkfbaoeimjgaaaGreat
open Go.RowKit
def rq (e : Req) : List Value := [.int .i64 e.k, .int .i64 e.n, .string e.s]
theorem rq_len (l : List Req) : (l.flatMap rq).length = l.length * 3 := by
  induction l with
  | nil => rfl
  | cons c r ih => rw [List.flatMap_cons, List.length_append, ih]; simp [rq]; omega
theorem rq_one (l : List Req) : ∀ u ∈ l.flatMap rq, u.oneCell' = true := by
  intro u hu
  obtain ⟨p, _, hp⟩ := List.mem_flatMap.1 hu
  simp only [rq, List.mem_cons, List.not_mem_nil, or_false] at hp
  rcases hp with rfl | rfl | rfl <;> rfl
theorem rq_get (l : List Req) (j : Nat) (h : j < l.length) : (l.flatMap rq)[j * 3]? = some (.int .i64 l[j].k) ∧ (l.flatMap rq)[j * 3 + 1]? = some (.int .i64 l[j].n) ∧ (l.flatMap rq)[j * 3 + 2]? = some (.string l[j].s) := by
  induction l generalizing j with
  | nil => simp at h
  | cons c r ih =>
    rw [List.flatMap_cons]
    have hl : (rq c).length = 3 := rfl
    cases j with
    | zero => simp [rq]
    | succ j =>
      have h1 := ih j (by simpa using h)
      have e : ∀ i, (rq c ++ r.flatMap rq)[(j + 1) * 3 + i]? = (r.flatMap rq)[j * 3 + i]? := fun i => by
        rw [List.getElem?_append_right (by rw [hl]; omega), hl]
        congr 1
        omega
      have e0 := e 0
      have e1 := e 1
      have e2 := e 2
      rw [Nat.add_zero, Nat.add_zero] at e0
      rw [e0, e1, e2]
      simpa using h1
theorem rq_take (l : List Req) (j : Nat) : (l.flatMap rq).take (j * 3) = (l.take j).flatMap rq := by
  induction l generalizing j with
  | nil => simp
  | cons c r ih =>
    cases j with
    | zero => simp
    | succ j =>
      rw [List.flatMap_cons, List.take_succ_cons, List.flatMap_cons, ← ih j, List.take_append]
      have hl : (rq c).length = 3 := rfl
      rw [hl, List.take_of_length_le (by rw [hl]; omega), show (j + 1) * 3 - 3 = j * 3 by omega]
theorem rq_drop (l : List Req) (j : Nat) : (l.flatMap rq).drop (j * 3) = (l.drop j).flatMap rq := by
  induction l generalizing j with
  | nil => simp
  | cons c r ih =>
    cases j with
    | zero => simp
    | succ j =>
      rw [List.flatMap_cons, List.drop_succ_cons, ← ih j, List.drop_append]
      have hl : (rq c).length = 3 := rfl
      rw [hl, List.drop_of_length_le (by rw [hl]; omega), show (j + 1) * 3 - 3 = j * 3 by omega, List.nil_append]
theorem slt_blk {w : World} {k : Nat} {o : Obj} (h : w.heap[k]? = some o) : k < w.heap.size := (Array.getElem?_eq_some_iff.1 h).1
theorem slt_cell {w : World} {b o : Nat} {u : Value} (h : w.cell? ⟨b, o, none⟩ = some u) : b < w.heap.size := World.block_lt_of_cell? w ⟨b, o, none⟩ h
theorem sfr_cell {w w' : World} {S : Nat → Prop} (f : Fr w w' S) {b o : Nat} {u : Value} (hb : ¬ S b) (h : w.cell? ⟨b, o, none⟩ = some u) : w'.cell? ⟨b, o, none⟩ = some u :=
  (World.cell?_of_block (a := ⟨b, o, none⟩) (f.block b (slt_cell h) hb)).trans h
theorem sone_new (w : World) (x : Obj) : Below w.heap.size w (w.alloc x) := (Below.refl _ _).alloc (Nat.le_refl _) _
theorem srow_keep {w w' : World} {base : Nat} {e : TypeId} {size : Nat} {v : Value} {n : Nat} {xs : List Value} {S : Nat → Prop} (h : w.ownsRow base e size v n xs) (f : Fr w w' S) (hS : ∀ k, v.ownBlock = some k → ¬ S k) : w'.ownsRow base e size v n xs := by
  refine ⟨h.1, ?_⟩
  rcases h.2 with h2 | ⟨g, cap, cur, rfl, h3, h4, h5⟩
  · exact Or.inl h2
  · exact Or.inr ⟨g, cap, cur, rfl, h3, (f.block g (slt_blk h4) (hS g rfl)).trans h4, h5⟩
theorem srow_tag {w : World} {base : Nat} {e : TypeId} {size : Nat} {v : Value} {n : Nat} {xs : List Value} (h : w.ownsRow base e size v n xs) {k : Nat} (hk : v.ownBlock = some k) : base ≤ k ∧ ∃ c f, w.heap[k]? = some (.cells c e f) := by
  rcases h.2 with ⟨h2, _⟩ | ⟨g, cap, cur, rfl, h3, h4, h5⟩
  · rw [h2] at hk; cases hk
  · cases hk
    exact ⟨h3, _, _, h4⟩
/-- Requests that can be read. -/
def RqS (w : World) (v : Value) (L : List Req) : Prop := ∃ ao cap, v = .slice ao L.length cap ∧ L.length ≤ cap ∧ (0 < L.length → ∃ b off, ao = some ⟨b, off, none⟩ ∧ ∀ j (h : j < L.length), w.cell? ⟨b, off + j * 3, none⟩ = some (.int .i64 L[j].k) ∧ w.cell? ⟨b, off + j * 3 + 1, none⟩ = some (.int .i64 L[j].n) ∧ w.cell? ⟨b, off + j * 3 + 2, none⟩ = some (.string L[j].s))
/-- Requests in a row of one's own. -/
def RqO (e : TypeId) (w : World) (B : Nat) (v : Value) (L : List Req) : Prop := w.ownsRow B e 3 v L.length (L.flatMap rq)
section
variable {e : TypeId} {w w' : World} {B : Nat} {v : Value} {L : List Req}
theorem RqO.shape (h : RqO e w B v L) : ∃ ao c, v = .slice ao L.length c ∧ L.length ≤ c ∧ (0 < L.length → ∃ g, ao = some ⟨g, 0, none⟩) := by
  rcases h.2 with ⟨h1, h2⟩ | ⟨g, cap, cur, rfl, _, _, h3, _⟩
  · exact ⟨none, 0, by rw [h1, h2], by omega, fun e => by omega⟩
  · exact ⟨_, _, rfl, h3, fun _ => ⟨g, rfl⟩⟩
theorem RqO.at_ {g n cap : Nat} (h : RqO e w B (.slice (some ⟨g, 0, none⟩) n cap) L) (j : Nat) (hj : j < L.length) : w.cell? ⟨g, j * 3, none⟩ = some (.int .i64 L[j].k) ∧ w.cell? ⟨g, j * 3 + 1, none⟩ = some (.int .i64 L[j].n) ∧ w.cell? ⟨g, j * 3 + 2, none⟩ = some (.string L[j].s) := by
  obtain ⟨ao, c, e, _⟩ := h.shape
  cases e
  obtain ⟨a0, a1, a2⟩ := rq_get L j hj
  have h0 := World.ownsRow.cells h (g := g) rfl _ _ a0
  have h1 := World.ownsRow.cells h (g := g) rfl _ _ a1
  have h2 := World.ownsRow.cells h (g := g) rfl _ _ a2
  rw [Addr.add_lit] at h0 h1 h2
  exact ⟨by simpa using h0, by simpa using h1, by simpa using h2⟩
theorem RqO.toS (h : RqO e w B v L) : RqS w v L := by
  obtain ⟨ao, c, rfl, hc, hg⟩ := h.shape
  refine ⟨ao, c, rfl, hc, fun h0 => ?_⟩
  obtain ⟨g, rfl⟩ := hg h0
  exact ⟨g, 0, rfl, fun j hj => by simpa using h.at_ j hj⟩
theorem RqO.nil (e : TypeId) (w : World) (B : Nat) : RqO e w B (.slice none 0 0) [] := World.ownsRow_nil _ _ _ _
theorem RqO.kept (h : RqO e w B v L) {S : Nat → Prop} (f : Fr w w' S) (hS : ∀ k, v.ownBlock = some k → ¬ S k) : RqO e w' B v L := srow_keep h f hS
theorem RqO.new (h : RqO e w B v L) (hb : Below w.heap.size w w') : RqO e w' B v L := h.kept (Fr.ofBelow hb (fun _ => False)) (fun _ _ h => h)
theorem RqO.lt (h : RqO e w B v L) : ∀ k, v.ownBlock = some k → B ≤ k ∧ k < w.heap.size := World.ownsRow.lt h
theorem RqS.new (h : RqS w v L) (hb : Below w.heap.size w w') : RqS w' v L := by
  obtain ⟨ao, cap, rfl, h1, h2⟩ := h
  refine ⟨ao, cap, rfl, h1, fun h0 => ?_⟩
  obtain ⟨b, off, e, h3⟩ := h2 h0
  exact ⟨b, off, e, fun j hj => ⟨(hb.cell (p := ⟨b, off + j * 3, none⟩) (slt_cell (h3 j hj).1)).trans (h3 j hj).1, (hb.cell (p := ⟨b, off + j * 3 + 1, none⟩) (slt_cell (h3 j hj).1)).trans (h3 j hj).2.1, (hb.cell (p := ⟨b, off + j * 3 + 2, none⟩) (slt_cell (h3 j hj).1)).trans (h3 j hj).2.2⟩⟩
end
/-- The one of a new cell of three. -/
theorem RqS.one {w : World} {g : Nat} {x : Req} {t : TypeId} {f : Nat × Nat} (h : w.heap[g]? = some (.cells #[.int .i64 x.k, .int .i64 x.n, .string x.s] t f)) (c : Nat) (hc : 1 ≤ c) : RqS w (.slice (some ⟨g, 0, none⟩) 1 c) [x] := by
  refine ⟨_, _, rfl, hc, fun _ => ⟨g, 0, rfl, fun j hj => ?_⟩⟩
  have : j = 0 := by simp at hj; exact hj
  subst this
  simp [World.cell?, h]
end Go.Proofs.YthkfbaoeimjgaaaGreat
end

section
/- Where a session stands: cmp.Compare, slices.BinarySearchFunc over requests, find. -/
namespace Go.Proofs.YthkfbaoeimjgaaaGreat
open Go.RowKit
def c3s (x y : Int) : Int := if x < y then -1 else if y < x then 1 else 0
theorem snan (x : Int) (w : World) : Calls Tryz.prog 244 #[.int .i64 x] w fun e w' => e = .returned (.bool false) ∧ w' = w := by
  have hx : (x != x) = false := by simp
  go_enter Tryz.func244, Tryz.ntmps244
  go_wp2
  go_ret
  exact ⟨by simp, rfl⟩
theorem scmp (x y : Int) (w : World) : Calls Tryz.prog 201 #[.int .i64 x, .int .i64 y] w fun e w' => e = .returned (.int .i64 (c3s x y)) ∧ w' = w := by
  by_cases h : x < y
  · have e : c3s x y = -1 := by unfold c3s; rw [if_pos h]
    rw [e]
    go_enter Tryz.func201, Tryz.ntmps201
    go_wp2_with (go_at_call 244; refine (snan _ _).mono ?_; rintro r w1 ⟨rfl, rfl⟩)
    go_ret
    exact ⟨rfl, rfl⟩
  · by_cases h' : y < x
    · have e : c3s x y = 1 := by unfold c3s; rw [if_neg h, if_pos h']
      rw [e]
      go_enter Tryz.func201, Tryz.ntmps201
      go_wp2_with (go_at_call 244; refine (snan _ _).mono ?_; rintro r w1 ⟨rfl, rfl⟩)
      go_ret
      exact ⟨rfl, rfl⟩
    · have e : c3s x y = 0 := by unfold c3s; rw [if_neg h, if_neg h']
      rw [e]
      go_enter Tryz.func201, Tryz.ntmps201
      go_wp2_with (go_at_call 244; refine (snan _ _).mono ?_; rintro r w1 ⟨rfl, rfl⟩)
      go_ret
      exact ⟨rfl, rfl⟩
theorem sfind1 (k n : Int) (s : ByteArray) (x : Int) (w : World) :
    Calls Tryz.prog 225 #[.agg #[.int .i64 k, .int .i64 n, .string s], .int .i64 x] w fun r w' => r = .returned (.int .i64 (c3s k x)) ∧ Below w.heap.size w w' := by
  go_enter Tryz.func225, Tryz.ntmps225
  go_wp2_with (go_at_call 201; refine (scmp _ _ _).mono ?_; rintro r w1 ⟨rfl, rfl⟩)
  go_ret
  exact ⟨rfl, (Below.refl _ _).alloc (Nat.le_refl _) _⟩
theorem riseq_lt {L : List Req} (h : RiseQ L) {i j : Nat} (hij : i < j) (hj : j < L.length) : L[i].k < L[j].k := List.pairwise_iff_getElem.1 h i j (by omega) hj hij
theorem pos_eq {L : List Req} {k : Int} {i : Nat} (hi : i ≤ L.length) (h1 : ∀ q (h : q < L.length), q < i → L[q].k < k) (h2 : ∀ q (h : q < L.length), i ≤ q → k ≤ L[q].k) : posR L k = i := by
  have e := posR_at (A := L.take i) (C := L.drop i) (k := k) (fun x hx => by
    obtain ⟨q, hq, rfl⟩ := List.getElem_of_mem hx
    rw [List.length_take] at hq
    rw [List.getElem_take]
    exact h1 q (by omega) (by omega)) (fun x hx => by
    obtain ⟨q, hq, rfl⟩ := List.getElem_of_mem hx
    rw [List.length_drop] at hq
    rw [List.getElem_drop]
    have := h2 (i + q) (by omega) (by omega)
    omega)
  rw [List.take_append_drop, List.length_take] at e
  omega
set_option maxRecDepth 100000 in
set_option maxHeartbeats 4000000 in
theorem sbsearch {w : World} {v : Value} {G : List Req} (x : Int) (h : RqS w v G) (hl : G.length ≤ 1073741824) (hr : RiseQ G) :
    Calls Tryz.prog 224 #[v, .int .i64 x, .func (.func 225) #[] #[]] w fun r w' => r = .returned (.tuple #[.int .i64 (posR G x), .bool (isR G x)]) ∧ Below w.heap.size w w' := by
  have HR : Hid (RiseQ G) := hr
  clear hr
  obtain ⟨ao, cap, rfl, hcap, hC⟩ := h
  have HC : Hid (0 < G.length → ∃ b off, ao = some ⟨b, off, none⟩ ∧ ∀ j (h : j < G.length), w.cell? ⟨b, off + j * 3, none⟩ = some (.int .i64 G[j].k) ∧ w.cell? ⟨b, off + j * 3 + 1, none⟩ = some (.int .i64 G[j].n) ∧ w.cell? ⟨b, off + j * 3 + 2, none⟩ = some (.string G[j].s)) := hC
  clear hC hcap
  go_enter Tryz.func224, Tryz.ntmps224
  go_wp2
  go_loopw [9, 10, 11] (fun u v _ wr => ∃ (i j : Nat), i ≤ j ∧ j ≤ G.length ∧ u = .int .i64 i ∧ v = .int .i64 j ∧ Hid (∀ q (h : q < G.length), q < i → G[q].k < x) ∧ Hid (∀ q (h : q < G.length), j ≤ q → x ≤ G[q].k) ∧ Below w.heap.size w wr) (fun u v _ _ => (intOf v).toNat - (intOf u).toNat)
  case atStart => exact ⟨0, G.length, Nat.zero_le _, Nat.le_refl _, rfl, rfl, fun q _ hq => absurd hq (by omega), fun q hq hq' => absurd hq (by omega), Below.refl _ _⟩
  case round =>
    obtain ⟨i, j, hij, hj, rfl, rfl, H1, H2, hb⟩ := hrel
    by_cases hlt : i < j
    · obtain ⟨m, HM⟩ : ∃ m : Nat, Hid (m = (i + j) / 2) := ⟨_, rfl⟩
      have hm : m = (i + j) / 2 := HM.out
      have hmi : i ≤ m := by omega
      have hmj : m < j := by omega
      have hmG : m < G.length := by omega
      obtain ⟨b, off, rfl, hc⟩ := HC.out (by omega)
      obtain ⟨c0, c1, c2⟩ := hc m hmG
      have hbb := slt_cell c0
      have d0 := (hb.cell (p := ⟨b, off + m * 3, none⟩) hbb).trans c0
      have d1 := (hb.cell (p := ⟨b, off + m * 3 + 1, none⟩) hbb).trans c1
      have d2 := (hb.cell (p := ⟨b, off + m * 3 + 2, none⟩) hbb).trans c2
      have hdv : ((i : Int) + (j : Int)) / 2 = m := by omega
      have HU : Hid (G[m].k < x → ∀ q (h : q < G.length), q < m + 1 → G[q].k < x) := fun hy q hq hqm => by
        by_cases e : q = m
        · subst e; exact hy
        · have := riseq_lt HR.out (show q < m by omega) hmG
          omega
      have HV : Hid (x ≤ G[m].k → ∀ q (h : q < G.length), m ≤ q → x ≤ G[q].k) := fun hy q hq hqm => by
        by_cases e : q = m
        · subst e; exact hy
        · have := riseq_lt HR.out (show m < q by omega) hq
          omega
      generalize G[m] = y at d0 d1 d2 HU HV
      have hF := fun w => sfind1 y.k y.n y.s x w
      clear c0 c1 c2 hc hm
      by_cases hy : y.k < x
      · rw [show c3s y.k x = -1 from if_pos hy] at hF
        have HU2 : Hid (∀ q (h : q < G.length), q < m + 1 → G[q].k < x) := HU.out hy
        go_wp2_with (go_at_call 225; refine (hF _).mono ?_; rintro r w1 ⟨rfl, hb1⟩)
        go_roundw
        case rel => exact ⟨m + 1, j, by omega, by omega, by go_num, rfl, HU2, H2, hb.trans (hb1.mono hb.size)⟩
        case measure => simp [intOf]; omega
      · obtain ⟨c, hcc, hc0⟩ : ∃ c, c3s y.k x = c ∧ ¬ c < 0 := ⟨_, rfl, by unfold c3s; rw [if_neg hy]; split <;> omega⟩
        rw [hcc] at hF
        have HV2 : Hid (∀ q (h : q < G.length), m ≤ q → x ≤ G[q].k) := HV.out (by omega)
        clear hcc
        go_wp2_with (go_at_call 225; refine (hF _).mono ?_; rintro r w1 ⟨rfl, hb1⟩)
        go_roundw
        case rel => exact ⟨i, m, by omega, by omega, rfl, rfl, H1, HV2, hb.trans (hb1.mono hb.size)⟩
        case measure => simp [intOf]; omega
    · obtain rfl : i = j := by omega
      have HF : Hid (posR G x = i) := pos_eq hj H1.out H2.out
      by_cases hin : i < G.length
      · obtain ⟨b, off, rfl, hc⟩ := HC.out (by omega)
        obtain ⟨c0, c1, c2⟩ := hc i hin
        have hbb := slt_cell c0
        have d0 := (hb.cell (p := ⟨b, off + i * 3, none⟩) hbb).trans c0
        have d1 := (hb.cell (p := ⟨b, off + i * 3 + 1, none⟩) hbb).trans c1
        have d2 := (hb.cell (p := ⟨b, off + i * 3 + 2, none⟩) hbb).trans c2
        have HX : Hid (x ≤ G[i].k) := H2.out i hin (Nat.le_refl _)
        have HB : Hid (isR G x = (c3s G[i].k x == 0)) := by
          show _ = _
          have h1 := HX.out
          unfold isR
          rw [HF.out, List.getElem?_eq_getElem hin]
          unfold c3s
          simp only
          rw [if_neg (by omega)]
          split
          · simp
            omega
          · simp
            omega
        generalize G[i] = y at d0 d1 d2 HX HB
        have hF := fun w => sfind1 y.k y.n y.s x w
        clear c0 c1 c2 hc
        generalize c3s y.k x = c at hF HB
        go_wp2_with (go_at_call 225; refine (hF _).mono ?_; rintro r w1 ⟨rfl, hb1⟩)
        go_ret2
        exact ⟨by rw [HF.out, HB.out]; rfl, hb.trans (hb1.mono hb.size)⟩
      · have HB : Hid (isR G x = false) := by
          show _ = _
          unfold isR
          rw [HF.out, List.getElem?_eq_none (by omega)]
        go_wp2
        go_ret2
        exact ⟨by rw [HF.out, HB.out]; rfl, hb⟩
end Go.Proofs.YthkfbaoeimjgaaaGreat
end
