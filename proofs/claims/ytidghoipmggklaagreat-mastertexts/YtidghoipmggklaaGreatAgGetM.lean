import Derived.Test.YtidghoipmggklaaGreatMaRrM
import Derived.Test.YtidghoipmggklaaGreatJbDecM
import Derived.Test.YtidghoipmggklaaGreatKcRefM
import Derived.Lib.LazyBuf
import Derived.WalkKit
import Derived.Test.YtidghoipmggklaaGreatProg
import Derived.WalkSpells
import Derived.WalkLawsBesides
import Derived.Test.YtidghoipmggklaaGreatNumM
import Derived.Handy
import Derived.Laws.StructEq
section
/- Apply of a submission at a master that has no table and no job: the job begins. -/
namespace Go.Proofs.YtidghoipmggklaaGreat
open Go.RowKit Go.Maps
attribute [local go_sem] Oper.semAt_some
theorem size_cmd : (Tryz.prog.info? 59).map (·.size) = some 27 := by kernel_rfl
set_option maxRecDepth 100000 in
set_option maxHeartbeats 2000000 in
theorem mapply_submit {w : World} {p : Nat} {mb : Option Nat} {M : List Pz} {s t : ByteArray} {G : List Vx} {ps : List Int} {st se pa sk : Int} (h : MaBox w p (.pointer none) mb (.slice none 0 0) 0 (.pointer none) M) (h0 : 0 < M.length) (hl : M.length ≤ 999999) (hD : DecOk s t G ps st se pa) (q4 q5 q6 r0 r1 r2 r3 r4 r5 r6 r7 r8 r9 r10 r11 r12 r13 r14 r15 r16 r17 r18 r19 : Value) :
    Calls Tryz.prog 21 #[.pointer (some ⟨p, 0, none⟩), .agg #[.int .i64 1, .int .i64 sk, .int .i64 1, .string s, q4, q5, q6, r0, r1, r2, r3, r4, r5, r6, r7, r8, r9, r10, r11, r12, r13, r14, r15, r16, r17, r18, r19]] w fun r w' => r = .returned (.tuple #[.agg #[.int .i64 0, .int .i64 1], .int .i64 0]) ∧ ∃ tb, SubSt w w' p (.pointer (some ⟨tb, 0, none⟩)) mb M t G ps st se pa ∧ Fr w w' (fun k => k = p) := by
  obtain ⟨W0, hW0⟩ : ∃ W0, w.alloc (.cells #[.pointer (some ⟨p, 0, none⟩)] 60) = W0 := ⟨_, rfl⟩
  obtain ⟨W1, hW1⟩ : ∃ W1, W0.alloc (.cells #[.int .i64 1, .int .i64 sk, .int .i64 1, .string s, q4, q5, q6, r0, r1, r2, r3, r4, r5, r6, r7, r8, r9, r10, r11, r12, r13, r14, r15, r16, r17, r18, r19] 59) = W1 := ⟨_, rfl⟩
  obtain ⟨W2, hW2⟩ : ∃ W2, W1.alloc (.cells #[.int .i64 0, .int .i64 0] 62) = W2 := ⟨_, rfl⟩
  have b0 : Below w.heap.size w W0 := by rw [← hW0]; exact ma_new _ _
  have b1 : Below W0.heap.size W0 W1 := by rw [← hW1]; exact ma_new _ _
  have b2 : Below W1.heap.size W1 W2 := by rw [← hW2]; exact ma_new _ _
  have s0 : W0.heap.size = w.heap.size + 1 := by rw [← hW0]; simp
  have s1 : W1.heap.size = w.heap.size + 2 := by rw [← hW1, World.size_alloc, s0]
  have k0 := heap_alloc_new w (.cells #[.pointer (some ⟨p, 0, none⟩)] 60)
  rw [hW0] at k0
  have k1 := heap_alloc_new W0 (.cells #[.int .i64 1, .int .i64 sk, .int .i64 1, .string s, q4, q5, q6, r0, r1, r2, r3, r4, r5, r6, r7, r8, r9, r10, r11, r12, r13, r14, r15, r16, r17, r18, r19] 59)
  rw [hW1] at k1
  have k2 := heap_alloc_new W1 (.cells #[.int .i64 0, .int .i64 0] 62)
  rw [hW2] at k2
  obtain ⟨gc, hgc⟩ : ∃ gc, W0.heap.size = gc := ⟨_, rfl⟩
  obtain ⟨gr, hgr⟩ : ∃ gr, W1.heap.size = gr := ⟨_, rfl⟩
  rw [hgc] at k1
  rw [hgr] at k2
  have HGr : Hid (gr = w.heap.size + 2) := by show _ = _; omega
  have k0' : W2.heap[w.heap.size]? = some (.cells #[.pointer (some ⟨p, 0, none⟩)] 60 (0, 0)) := (b2.block _ (by omega)).trans ((b1.block _ (by omega)).trans k0)
  have k1' : W2.heap[gc]? = some (.cells #[.int .i64 1, .int .i64 sk, .int .i64 1, .string s, q4, q5, q6, r0, r1, r2, r3, r4, r5, r6, r7, r8, r9, r10, r11, r12, r13, r14, r15, r16, r17, r18, r19] 59 (0, 0)) := (b2.block _ (by omega)).trans k1
  have c0 : W2.cell? ⟨w.heap.size, 0, none⟩ = some (.pointer (some ⟨p, 0, none⟩)) := by simp [World.cell?, k0']
  have c1 : W2.cell? ⟨gc, 0, none⟩ = some (.int .i64 1) := by simp [World.cell?, k1']
  have c3 : W2.cell? ⟨gc, 3, none⟩ = some (.string s) := by simp [World.cell?, k1']
  have HB : Hid (Below w.heap.size w W2) := (b0.trans (b1.mono b0.size)).trans (b2.mono (by omega))
  have HRe : Hid (W2.heap[gr]? = some (.cells #[.int .i64 0, .int .i64 0] 62 (0, 0))) := k2
  have HLt : Hid (p < w.heap.size ∧ ∀ b, mb = some b → b < w.heap.size) := ⟨h.lt, fun b hb => by subst hb; exact WkAt.lt h.wk⟩
  have hpl := h.lt
  have hC := fun x0 x3 x4 x5 x6 x7 x8 x9 x10 x11 x12 x13 x14 x15 x16 x17 x18 x19 x20 x21 x22 x23 x24 x25 x26 => mrequest (h.new HB.out) h0 hl hD (sk := sk) c0 c3 (by omega) (by omega) x0 x3 x4 x5 x6 x7 x8 x9 x10 x11 x12 x13 x14 x15 x16 x17 x18 x19 x20 x21 x22 x23 x24 x25 x26
  have HCm : Hid (W2.heap[gc]? = some (.cells #[.int .i64 1, .int .i64 sk, .int .i64 1, .string s, q4, q5, q6, r0, r1, r2, r3, r4, r5, r6, r7, r8, r9, r10, r11, r12, r13, r14, r15, r16, r17, r18, r19] 59 (0, 0))) := k1'
  have hmf : ∀ (fn : Fn) (first cap : Array Value) (w : World), (Instr.makeFunc fn first cap).run Tryz.prog w = .ok (.func fn first cap) w := fun _ _ _ _ => rfl
  clear h b0 b1 b2 k0 k1 k2 k0' k1' s0 s1
  go_enter Tryz.func21, Tryz.ntmps21
  go_upto_region 1 with (fail)
  clear hW0 hW1 hW2 hgc hgr
  obtain ⟨g, hg⟩ : ∃ g, w.heap.size = g := ⟨_, rfl⟩
  have HG : Hid (w.heap.size = g) := hg
  rw [hg] at c0 hC ⊢
  clear hg
  go_wp2_with (first
    | (refine wpList_load_row rfl 59 _ rfl gc rfl 59 #[.int .i64 1, .int .i64 sk, .int .i64 1, .string s, q4, q5, q6, r0, r1, r2, r3, r4, r5, r6, r7, r8, r9, r10, r11, r12, r13, r14, r15, r16, r17, r18, r19] (0, 0) _ HCm.out Tryz.underlying59 rfl size_cmd ?_)
    | (go_at_call 68; refine (hC _ _ _ _ _ _ _ _ _ _ _ _ _ _ _ _ _ _ _ _ _ _ _ _ _).mono ?_; rintro r w4 ⟨rfl, tb, hq, hf⟩; have HQ : Hid (SubSt W2 w4 p (.pointer (some ⟨tb, 0, none⟩)) mb M t G ps st se pa) := hq; have HF : Hid (Fr W2 w4 (fun k => k = p)) := hf; have HRe4 : Hid (w4.heap[gr]? = some (.cells #[.int .i64 0, .int .i64 0] 62 (0, 0))) := (hf.block gr (ma_lt HRe.out) (by have := HLt.out.1; have := HGr.out; omega)).trans HRe.out; clear hq hf)
    | (refine wpList_store_row rfl 62 _ _ rfl gr #[.int .i64 0, .int .i64 1] rfl rfl 62 #[.int .i64 0, .int .i64 0] HRe4.out size_reply rfl (by simp [Value.oneCell']) ?_))
  refine bodyPost_ret (v := .tuple #[.agg #[.int .i64 0, .int .i64 1], .int .i64 0]) (res_ctJ Tryz.results21 _ _ gr 62 _ (0, 0) _ rfl (setRow_heap _ _ _ _ _ _ HRe4.out) Tryz.underlying62 rfl size_reply) rfl ?_
  have f8 := ap_setRow w4 gr #[.int .i64 0, .int .i64 1]
  have hps := HLt.out.1
  have hgr := HGr.out
  have hlr := ma_lt HRe.out
  refine ⟨rfl, tb, (HQ.out.kept f8 (fun e => by omega) (fun k hk e => by omega) (fun b hb e => by have := HLt.out.2 b hb; omega)).low HB.out.size, ?_⟩
  exact ((Fr.ofBelow HB.out (fun k => k = p)).trans HF.out (fun _ _ h => h)).trans f8 (fun k hk e => by omega)
end Go.Proofs.YtidghoipmggklaaGreat
end

section
/- The bytes of a job that may be, and back; the statements' text. -/
namespace Go.Proofs.YtidghoipmggklaaGreat
open Go.RowKit
attribute [local go_sem] Oper.semAt_some
theorem dec_back {t : ByteArray} {G : List Vx} {ps : List Int} {st se pa : Nat} (hok : ∀ v ∈ G, v.ok) (hpk : ∀ x ∈ ps, I64 x) (hj : jobN t G ps st se pa = 0) : DecOk (str (jobB t G ps st se pa)) t G ps st se pa := fun W => by
  have hk := jobN_ok hj
  obtain ⟨B, hB⟩ : ∃ B, jobB t G ps st se pa = B := ⟨_, rfl⟩
  have hBl : B.length ≤ 60000 := by rw [← hB]; exact jobB_len (known_size hk.known) hok hk.chk hk.len hpk (by have := hk.st; omega) (by have := hk.se; omega) (by have := hk.pa; omega)
  obtain ⟨a1, a2, a3, a4, a5, a6, hJ⟩ := jr_back (s := str B) (a := []) (c := []) (t := t) (G := G) (ps := ps) (st := st) (se := se) (pa := pa) (by rw [hB]; simp [str_list]) (by have := known_size hk.known; omega) hok hk.chk hk.len hpk (by have := hk.st; omega) (by have := hk.se; omega) (by have := hk.pa; omega)
  rw [hB]
  refine decj_good (by rw [str_size]; unfold maxLen; omega) hJ (by unfold jErr; rw [rdFail_0]; exact hj) ?_
  unfold rdEnd
  rw [if_neg]
  rintro ⟨_, h⟩
  rw [str_size, hB] at h
  simp at h
set_option maxRecDepth 100000 in
set_option maxHeartbeats 1000000 in
/-- A job within the statements' bounds stays as it is. -/
theorem msmall {w : World} {t : ByteArray} {go po : Option Addr} {n gc m pc : Nat} {st se pa : Int} (hn : n ≤ 30) (hst : st ≤ 60) (hse : se ≤ 3000) : Calls Tryz.prog 35 #[.agg #[.string t, .slice go n gc, .slice po m pc, .int .i64 st, .int .i64 se, .int .i64 pa]] w fun r w' => r = .returned (.agg #[.string t, .slice go n gc, .slice po m pc, .int .i64 st, .int .i64 se, .int .i64 pa]) ∧ Below w.heap.size w w' := by
  obtain ⟨W0, hW0⟩ : ∃ W0, w.alloc (.cells #[.string t, .slice go n gc, .slice po m pc, .int .i64 st, .int .i64 se, .int .i64 pa] 27) = W0 := ⟨_, rfl⟩
  obtain ⟨W1, hW1⟩ : ∃ W1, W0.alloc (.cells #[.string ⟨#[]⟩, .slice none 0 0, .slice none 0 0, .int .i64 0, .int .i64 0, .int .i64 0] 27) = W1 := ⟨_, rfl⟩
  have b0 : Below w.heap.size w W0 := by rw [← hW0]; exact ma_new _ _
  have b1 : Below W0.heap.size W0 W1 := by rw [← hW1]; exact ma_new _ _
  have k0 := heap_alloc_new w (.cells #[.string t, .slice go n gc, .slice po m pc, .int .i64 st, .int .i64 se, .int .i64 pa] 27)
  have k1 := heap_alloc_new W0 (.cells #[.string ⟨#[]⟩, .slice none 0 0, .slice none 0 0, .int .i64 0, .int .i64 0, .int .i64 0] 27)
  rw [hW0] at k0
  rw [hW1] at k1
  obtain ⟨g, hg⟩ : ∃ g, w.heap.size = g := ⟨_, rfl⟩
  obtain ⟨gr, hgr⟩ : ∃ gr, W0.heap.size = gr := ⟨_, rfl⟩
  have HG : Hid (w.heap.size = g) := hg
  have HLt : Hid (w.heap.size ≤ gr) := by have := b0.size; show _ ≤ _; omega
  rw [hg] at k0
  rw [hgr] at k1
  have k0' := (b1.block g (ma_lt k0)).trans k0
  have HK : Hid (W1.heap[g]? = some (.cells #[.string t, .slice go n gc, .slice po m pc, .int .i64 st, .int .i64 se, .int .i64 pa] 27 (0, 0))) := k0'
  have HR : Hid (W1.heap[gr]? = some (.cells #[.string ⟨#[]⟩, .slice none 0 0, .slice none 0 0, .int .i64 0, .int .i64 0, .int .i64 0] 27 (0, 0))) := k1
  have HB : Hid (Below w.heap.size w W1) := b0.trans (b1.mono b0.size)
  have c1 : W1.cell? ⟨g, 1, none⟩ = some (.slice go n gc) := by simp [World.cell?, k0']
  have c3 : W1.cell? ⟨g, 3, none⟩ = some (.int .i64 st) := by simp [World.cell?, k0']
  have c4 : W1.cell? ⟨g, 4, none⟩ = some (.int .i64 se) := by simp [World.cell?, k0']
  have hni : (n : Int) ≤ 30 := by omega
  clear b0 b1 k0 k1 k0'
  go_enter Tryz.func35, Tryz.ntmps35
  go_wp2_with (first
    | (refine wpList_load_row rfl 27 _ rfl g rfl 27 #[.string t, .slice go n gc, .slice po m pc, .int .i64 st, .int .i64 se, .int .i64 pa] (0, 0) _ HK.out Tryz.underlying27 rfl size_jobJ ?_)
    | (refine wpList_store_row rfl 27 _ _ rfl gr #[.string t, .slice go n gc, .slice po m pc, .int .i64 st, .int .i64 se, .int .i64 pa] rfl rfl 27 #[.string ⟨#[]⟩, .slice none 0 0, .slice none 0 0, .int .i64 0, .int .i64 0, .int .i64 0] HR.out size_jobJ rfl (by simp [Value.oneCell']) ?_))
  refine bodyPost_ret (v := .agg #[.string t, .slice go n gc, .slice po m pc, .int .i64 st, .int .i64 se, .int .i64 pa]) (results_cell_row Tryz.results35 _ _ gr 27 _ (0, 0) _ rfl (setRow_heap _ _ _ _ _ _ HR.out) Tryz.underlying27 rfl size_jobJ) rfl ?_
  exact ⟨rfl, HB.out.trans ((ap_setRow W1 gr _).below HB.out.size (fun k hk => by have := HLt.out; omega))⟩
set_option maxRecDepth 100000 in
set_option maxHeartbeats 1000000 in
/-- The text of a job that may be. -/
theorem mtext {w : World} {P : Nat → Prop} {t : ByteArray} {go po : Option Addr} {G : List Vx} {n gc m pc : Nat} {ps : List Int} {st se pa : Nat} (hn : n = G.length) (hm : m = ps.length) (hn30 : n ≤ 30) (hst : st ≤ 60) (hse : se ≤ 3000) (hG : VxAt w P go G) (hok : ∀ v ∈ G, v.ok) (hL : IsAt w po ps) (hpk : ∀ x ∈ ps, I64 x) (hj : jobN t G ps st se pa = 0) : Calls Tryz.prog 36 #[.agg #[.string t, .slice go n gc, .slice po m pc, .int .i64 (st : Int), .int .i64 (se : Int), .int .i64 (pa : Int)]] w fun r w' => r = .returned (.string (str (jobB t G ps st se pa))) ∧ Below w.heap.size w w' := by
  obtain ⟨W0, hW0⟩ : ∃ W0, w.alloc (.cells #[.string t, .slice go n gc, .slice po m pc, .int .i64 (st : Int), .int .i64 (se : Int), .int .i64 (pa : Int)] 27) = W0 := ⟨_, rfl⟩
  have b0 : Below w.heap.size w W0 := by rw [← hW0]; exact ma_new _ _
  have k0 := heap_alloc_new w (.cells #[.string t, .slice go n gc, .slice po m pc, .int .i64 (st : Int), .int .i64 (se : Int), .int .i64 (pa : Int)] 27)
  rw [hW0] at k0
  have HK : Hid (W0.heap[w.heap.size]? = some (.cells #[.string t, .slice go n gc, .slice po m pc, .int .i64 (st : Int), .int .i64 (se : Int), .int .i64 (pa : Int)] 27 (0, 0))) := k0
  have HB : Hid (Below w.heap.size w W0) := b0
  have hSm := msmall (w := W0) (t := t) (go := go) (po := po) (n := n) (gc := gc) (m := m) (pc := pc) (st := (st : Int)) (se := (se : Int)) (pa := (pa : Int)) hn30 (by omega) (by omega)
  have HEn : Hid (∀ W, Below w.heap.size w W → Calls Tryz.prog 8 #[.agg #[.string t, .slice go n gc, .slice po m pc, .int .i64 (st : Int), .int .i64 (se : Int), .int .i64 (pa : Int)]] W fun r w' => r = .returned (.tuple #[.string (str (jobB t G ps st se pa)), .int .i64 0]) ∧ Below W.heap.size W w') := fun W hb => encj_good (gc := gc) (pc := pc) hn hm (hG.new hb) hok (hL.new hb) hpk hj
  clear hG hok hL hpk hj k0 b0 hn hm
  generalize str (jobB t G ps st se pa) = tx at HEn ⊢
  go_enter Tryz.func36, Tryz.ntmps36
  go_wp2_with (first
    | (refine wpList_load_row rfl 27 _ rfl w.heap.size rfl 27 #[.string t, .slice go n gc, .slice po m pc, .int .i64 (st : Int), .int .i64 (se : Int), .int .i64 (pa : Int)] (0, 0) _ HK.out Tryz.underlying27 rfl size_jobJ ?_)
    | (go_at_call 35; refine hSm.mono ?_; rintro r w1 ⟨rfl, hb1⟩; have HB1 : Hid (Below w.heap.size w w1) := HB.out.trans (hb1.mono HB.out.size); clear hb1)
    | (go_at_call 8; refine (HEn.out _ HB1.out).mono ?_; rintro r w2 ⟨rfl, hb2⟩))
  go_ret
  exact ⟨rfl, HB1.out.trans (hb2.mono HB1.out.size)⟩
end Go.Proofs.YtidghoipmggklaaGreat
end

section
/- Who awaits: the first worker of a row; a course's has and awaits. -/
namespace Go.Proofs.YtidghoipmggklaaGreat
open Go.RowKit Go.Maps
attribute [local go_sem] Oper.semAt_some
theorem sindex_first {w : World} {b o n c : Nat} {y : Int} (hn : 0 < n) (c0 : w.cell? ⟨b, o, none⟩ = some (.int .i64 y)) : Calls Tryz.prog 217 #[.slice (some ⟨b, o, none⟩) n c, .int .i64 y] w fun r w' => r = .returned (.int .i64 0) ∧ w' = w := by
  go_enter Tryz.func217, Tryz.ntmps217
  go_wp2
  go_loopw [5, 8] (fun _ i wr => i = .int .i64 0 ∧ wr = w) (fun _ _ _ => 0)
  case atStart => exact ⟨rfl, rfl⟩
  case round =>
    obtain ⟨rfl, rfl⟩ := hrel
    go_wp2
    go_ret
    exact ⟨rfl, rfl⟩
theorem scontains_first {w : World} {b o n c : Nat} {y : Int} (hn : 0 < n) (c0 : w.cell? ⟨b, o, none⟩ = some (.int .i64 y)) : Calls Tryz.prog 177 #[.slice (some ⟨b, o, none⟩) n c, .int .i64 y] w fun r w' => r = .returned (.bool true) ∧ w' = w := by
  have h1 := sindex_first (c := c) hn c0
  clear c0
  go_enter Tryz.func177, Tryz.ntmps177
  go_wp2_with (go_at_call 217; refine h1.mono ?_; rintro r w1 ⟨rfl, rfl⟩)
  go_ret
  exact ⟨rfl, rfl⟩
/-- A course whose first partition is a worker's has it. -/
theorem chas_first {w : World} {q b o n c : Nat} {y : Int} (hn : 0 < n) (c4 : w.cell? ⟨q, 4, none⟩ = some (.slice (some ⟨b, o, none⟩) n c)) (c0 : w.cell? ⟨b, o, none⟩ = some (.int .i64 y)) : Calls Tryz.prog 131 #[.pointer (some ⟨q, 0, none⟩), .int .i64 y] w fun r w' => r = .returned (.bool true) ∧ w' = w := by
  have h1 := scontains_first (c := c) hn c0
  clear c0
  go_enter Tryz.func131, Tryz.ntmps131
  go_wp2_with (go_at_call 177; refine h1.mono ?_; rintro r w1 ⟨rfl, rfl⟩)
  go_ret
  exact ⟨rfl, rfl⟩
def rpZ : List Value := [.bool false, .int .i64 0, .int .i64 0, .int .i64 0] ++ agZ ++ [.slice none 0 0]
theorem rzero (w : World) : (zeroValue 227).run Tryz.prog w = .ok (.agg rpZ.toArray) w := by kernel_rfl
theorem size_rep : (Tryz.prog.info? 227).map (·.size) = some 15 := by kernel_rfl
/-- A look into a map of reports that is empty. -/
theorem rnone_look {w : World} {b : Nat} (hd : w.heap[b]? = some (.map #[] 0)) {x : Int} (hx : W6 x) : (Instr.lookup 162 (.map (some b)) (.int .i64 x) true).run Tryz.prog w = .ok (.tuple #[.agg rpZ.toArray, .bool false]) w := by
  have h : w.ownsMap Tryz.prog 3 wR b 0 (.map []) := by
    obtain ⟨es, ck, h1, F, h2, h3⟩ := World.ownsMap_made w Tryz.prog 3 wR
    have h4 := heap_alloc_new w (.map #[] 0)
    rw [h4] at h1
    injection h1 with h1
    injection h1 with e1 e2
    subst e1 e2
    exact ⟨#[], 0, hd, F, h2, h3⟩
  obtain ⟨v, ps, hrun, hv⟩ := h.look_ok wlaw Tryz.underlying162 (z := .agg rpZ.toArray) (rzero w) (zd := .held (.agg rpZ.toArray)) (zp := []) rfl (wkey hx)
  have hat : (DataW.map [] : DataW Value).atKey (.int .i64 x) (.held (.agg rpZ.toArray)) = .held (.agg rpZ.toArray) := rfl
  have hha : Maps.has (DataW.map [] : DataW Value) (.int .i64 x) = false := rfl
  rw [hat] at hv
  unfold wR at hv
  simp only [Option.some.injEq, Prod.mk.injEq, DataW.held.injEq] at hv
  rw [hrun, hha, hv.1]
set_option maxRecDepth 100000 in
set_option maxHeartbeats 1000000 in
/-- A course whose first partition is a worker's, and that heard nobody, awaits it. -/
theorem cawaits_first {w : World} {q hb b o n c : Nat} {y : Int} (hn : 0 < n) (hy : W6 y) (c4 : w.cell? ⟨q, 4, none⟩ = some (.slice (some ⟨b, o, none⟩) n c)) (c5 : w.cell? ⟨q, 5, none⟩ = some (.map (some hb))) (c0 : w.cell? ⟨b, o, none⟩ = some (.int .i64 y)) (hd : w.heap[hb]? = some (.map #[] 0)) : Calls Tryz.prog 79 #[.pointer (some ⟨q, 0, none⟩), .int .i64 y] w fun r w' => r = .returned (.bool true) ∧ Below w.heap.size w w' := by
  have h1 := chas_first hn c4 c0
  have hl := rnone_look hd hy
  obtain ⟨W, hW⟩ : ∃ W, w.alloc (.cells #[.bool false, .int .i64 0, .int .i64 0, .int .i64 0, .bool false, .bool false, .bool false, .bool false, .bool false, .int .i64 0, .int .i64 0, .int .i64 0, .int .i64 0, .int .i64 0, .slice none 0 0] 227) = W := ⟨_, rfl⟩
  have HB : Hid (Below w.heap.size w W) := by rw [← hW]; exact ma_new _ _
  have k0 := heap_alloc_new w (.cells #[.bool false, .int .i64 0, .int .i64 0, .int .i64 0, .bool false, .bool false, .bool false, .bool false, .bool false, .int .i64 0, .int .i64 0, .int .i64 0, .int .i64 0, .int .i64 0, .slice none 0 0] 227)
  rw [hW] at k0
  have HK : Hid (W.heap[w.heap.size]? = some (.cells #[.bool false, .int .i64 0, .int .i64 0, .int .i64 0, .bool false, .bool false, .bool false, .bool false, .bool false, .int .i64 0, .int .i64 0, .int .i64 0, .int .i64 0, .int .i64 0, .slice none 0 0] 227 (0, 0))) := k0
  obtain ⟨g, hg⟩ : ∃ g, w.heap.size = g := ⟨_, rfl⟩
  have HG : Hid (w.heap.size = g) := hg
  rw [hg] at HK HB
  clear c0 hd c4 k0
  go_enter Tryz.func79, Tryz.ntmps79
  go_wp2_with (first
    | (go_at_call 131; refine h1.mono ?_; rintro r w1 ⟨rfl, rfl⟩)
    | (refine wpList_store_row rfl 227 _ _ rfl g rpZ.toArray rfl rfl 227 #[.bool false, .int .i64 0, .int .i64 0, .int .i64 0, .bool false, .bool false, .bool false, .bool false, .bool false, .int .i64 0, .int .i64 0, .int .i64 0, .int .i64 0, .int .i64 0, .slice none 0 0] HK.out size_rep rfl (by simp [rpZ, agZ, Value.oneCell']) ?_))
  go_ret
  exact ⟨rfl, by rw [HG.out]; exact HB.out.trans ((ap_setRow W g _).below (by have := HB.out.size; have := HG.out; omega) (fun k hk => by have := HG.out; omega))⟩
end Go.Proofs.YtidghoipmggklaaGreat
end

section
/- A job's copy: the copy of its numbers, of the job. -/
namespace Go.Proofs.YtidghoipmggklaaGreat
open Go.RowKit Go.Maps
attribute [local go_sem] Oper.semAt_some
theorem gT_i64 : GT ie 1 8 25 2 := by
  refine ⟨Tryz.underlying25, ?_, ie_len, fun x u hu => by simp only [ie, List.mem_singleton] at hu; subst hu; rfl, by decide, by decide⟩
  cases h : Tryz.prog.info? 2 with
  | none =>
    have : (Tryz.prog.info? 2).isSome = true := by kernel_rfl
    rw [h] at this
    cases this
  | some i =>
    have h1 : (Tryz.prog.info? 2).map (·.zero) = some (some (.int .i64 0)) := by kernel_rfl
    have h2 : (Tryz.prog.info? 2).map (·.size) = some 1 := by kernel_rfl
    have h3 : (Tryz.prog.info? 2).map (·.bytes) = some 8 := by kernel_rfl
    rw [h] at h1 h2 h3
    exact ⟨i, _, rfl, by simpa using h1, by simpa using h2, by simpa using h3, rfl⟩
set_option maxRecDepth 100000 in
theorem sclone64 {w : World} {v : Value} {L : List Int} (h : GS ie w v L) (hl : L.length * 8 ≤ 140737488355328) : Calls Tryz.prog 139 #[v] w fun r w' => ∃ v', r = .returned v' ∧ GO ie 1 2 w' w.heap.size v' L ∧ Below w.heap.size w w' := by
  obtain ⟨ao, c, rfl, hc, hs⟩ := h
  have q22 : ∀ (w : World) (a : Option Addr) (n c n' c' : Nat), (binOp .eql 25 (.slice a n c) (.slice none n' c')).run Tryz.prog w = .ok (.bool a.isNone) w := fun w a n c n' c' => Lib.run_eql_slice_nil w _ _ a n c n' c' Tryz.underlying25
  cases ao with
  | none =>
    have h0 : L = [] := by
      rcases Nat.eq_zero_or_pos L.length with h0 | h0
      · exact List.eq_nil_of_length_eq_zero h0
      · obtain ⟨b, off, e, _⟩ := hs h0
        cases e
    subst h0
    clear hs hc hl
    go_enter Tryz.func139, Tryz.ntmps139
    go_wp2
    go_ret
    exact ⟨_, rfl, GO.nil _ _ _ _ _, Below.refl _ _⟩
  | some a =>
    have HS : Hid (GS ie w (.slice (some a) L.length c) L) := ⟨_, _, rfl, hc, hs⟩
    have HL : Hid (L.length * 8 ≤ 140737488355328) := hl
    obtain ⟨W, hW⟩ : ∃ W, w.alloc (.cells #[] 2) = W := ⟨_, rfl⟩
    have HB : Hid (Below w.heap.size w W) := by rw [← hW]; exact ma_new _ _
    have k0 := heap_alloc_new w (.cells #[] 2)
    rw [hW] at k0
    have HM : Hid (GO ie 1 2 W w.heap.size (.slice (some ⟨w.heap.size, 0, none⟩) 0 0) []) := GO.made k0
    clear hs hc hl k0
    go_enter Tryz.func139, Tryz.ntmps139
    go_wp2_with (at_builtin; refine wpl_appG gT_i64 rfl rfl rfl rfl (R := []) (S := L) HM.out (GS.new HS.out HB.out) (by have := HL.out; simp; omega) HB.out.size ?_; intro v2 w2 ho2 hf2 _)
    go_ret
    exact ⟨_, rfl, ho2, HB.out.trans (hf2.below HB.out.size (fun k hk => (GO.lt HM.out k hk).1))⟩
set_option maxRecDepth 100000 in
set_option maxHeartbeats 1000000 in
/-- A job's copy. -/
theorem mclone {w : World} {P : Nat → Prop} {t : ByteArray} {go : Option Addr} {gc : Nat} {pv0 : Value} {G : List Vx} {ps : List Int} {st se pa : Int} (hG : VxAt w P go G) (hok : ∀ v ∈ G, v.ok) (hgl : G.length * 40 ≤ 140737488355328) (hp : GS ie w pv0 ps) (hpl : ps.length * 8 ≤ 140737488355328) :
    Calls Tryz.prog 82 #[.agg #[.string t, .slice go G.length gc, pv0, .int .i64 st, .int .i64 se, .int .i64 pa]] w fun r w' => ∃ bo c v', r = .returned (.agg #[.string t, .slice bo G.length c, v', .int .i64 st, .int .i64 se, .int .i64 pa]) ∧ VxAt w' (fun k => w.heap.size ≤ k) bo G ∧ GO ie 1 2 w' w.heap.size v' ps ∧ Below w.heap.size w w' := by
  obtain ⟨W0, hW0⟩ : ∃ W0, w.alloc (.cells #[.string t, .slice go G.length gc, pv0, .int .i64 st, .int .i64 se, .int .i64 pa] 27) = W0 := ⟨_, rfl⟩
  obtain ⟨W1, hW1⟩ : ∃ W1, W0.alloc (.cells #[.string ⟨#[]⟩, .slice none 0 0, .slice none 0 0, .int .i64 0, .int .i64 0, .int .i64 0] 27) = W1 := ⟨_, rfl⟩
  have b0 : Below w.heap.size w W0 := by rw [← hW0]; exact ma_new _ _
  have b1 : Below W0.heap.size W0 W1 := by rw [← hW1]; exact ma_new _ _
  have k0 := heap_alloc_new w (.cells #[.string t, .slice go G.length gc, pv0, .int .i64 st, .int .i64 se, .int .i64 pa] 27)
  have k1 := heap_alloc_new W0 (.cells #[.string ⟨#[]⟩, .slice none 0 0, .slice none 0 0, .int .i64 0, .int .i64 0, .int .i64 0] 27)
  rw [hW0] at k0
  rw [hW1] at k1
  obtain ⟨g, hg⟩ : ∃ g, w.heap.size = g := ⟨_, rfl⟩
  obtain ⟨gr, hgr⟩ : ∃ gr, W0.heap.size = gr := ⟨_, rfl⟩
  have HG : Hid (w.heap.size = g) := hg
  have HLt : Hid (g < gr ∧ gr < W1.heap.size) := ⟨by rw [← hg, ← hgr]; exact ma_lt k0, by rw [← hgr]; exact ma_lt k1⟩
  rw [hg] at k0
  rw [hgr] at k1
  have k0' := (b1.block g (ma_lt k0)).trans k0
  have HB : Hid (Below w.heap.size w W1) := b0.trans (b1.mono b0.size)
  have HVx : Hid (VxAt W1 P go G) := hG.new HB.out
  have HP0 : Hid (GS ie w pv0 ps) := hp
  have HOk : Hid (∀ v ∈ G, v.ok) := hok
  have HLn : Hid (G.length * 40 ≤ 140737488355328 ∧ ps.length * 8 ≤ 140737488355328) := ⟨hgl, hpl⟩
  have HK : Hid (W1.heap[g]? = some (.cells #[.string t, .slice go G.length gc, pv0, .int .i64 st, .int .i64 se, .int .i64 pa] 27 (0, 0))) := k0'
  have HR : Hid (W1.heap[gr]? = some (.cells #[.string ⟨#[]⟩, .slice none 0 0, .slice none 0 0, .int .i64 0, .int .i64 0, .int .i64 0] 27 (0, 0))) := k1
  have c1 : W1.cell? ⟨g, 1, none⟩ = some (.slice go G.length gc) := by simp [World.cell?, k0']
  clear b0 b1 k0 k1 k0' hG hok hgl hp hpl
  go_enter Tryz.func82, Tryz.ntmps82
  go_upto_region 2 with (go_at_call 138; refine (clone_any G gc HVx.out HOk.out HLn.out.1).mono ?_; rintro r w2 ⟨bo, c, rfl, hv2, hb2⟩; have HV2 : Hid (VxAt w2 (fun k => W1.heap.size ≤ k) bo G) := hv2; have HB2 : Hid (Below W1.heap.size W1 w2) := hb2; have K2 := (hb2.block g (ma_lt HK.out)).trans HK.out; have q1 : w2.cell? ⟨g, 1, none⟩ = some (.slice go G.length gc) := (by simp [World.cell?, K2]); have q2 : w2.frozen? ⟨g, 1, none⟩ = false := (by simp [World.frozen?, K2]); have HK2 : Hid (w2.heap[g]? = _) := K2; clear hv2 hb2 K2)
  generalize hW3 : World.setCell _ _ _ = W3
  have HK3 : Hid (W3.heap[g]? = some (.cells #[.string t, .slice bo G.length c, pv0, .int .i64 st, .int .i64 se, .int .i64 pa] 27 (0, 0))) := by rw [← hW3]; exact ma_set _ HK2.out
  have HF3 : Hid (Fr w2 W3 (fun k => k = g)) := by rw [← hW3]; exact Fr.setCell _ _ _ rfl
  have HB3 : Hid (Below w.heap.size w W3) := (HB.out.trans (HB2.out.mono HB.out.size)).trans (HF3.out.below (Nat.le_trans HB.out.size HB2.out.size) (fun k hk => by have := HG.out; omega))
  have HV3 : Hid (VxAt W3 (fun k => W1.heap.size ≤ k) bo G) := HV2.out.kept HF3.out (fun k _ hp => ⟨fun e => by have := HLt.out; omega, hp⟩)
  have HR3 : Hid (W3.heap[gr]? = some (.cells #[.string ⟨#[]⟩, .slice none 0 0, .slice none 0 0, .int .i64 0, .int .i64 0, .int .i64 0] 27 (0, 0))) := (HF3.out.block gr (by have := HB2.out.size; have := HLt.out; omega) (fun e => by have := HLt.out; omega)).trans ((HB2.out.block gr HLt.out.2).trans HR.out)
  have e2 : W3.cell? ⟨g, 2, none⟩ = some pv0 := by simp [World.cell?, HK3.out]
  clear hW3
  go_upto_region 3 with (go_at_call 139; refine (sclone64 (HP0.out.new HB3.out) HLn.out.2).mono ?_; rintro r w4 ⟨v4, rfl, ho4, hb4⟩; obtain ⟨ap, cp, rfl, -⟩ := ho4.shape; have HO4 : Hid (GO ie 1 2 w4 W3.heap.size (.slice ap ps.length cp) ps) := ho4; have HB4 : Hid (Below W3.heap.size W3 w4) := hb4; have K4 := (hb4.block g (ma_lt HK3.out)).trans HK3.out; have q3 : w4.cell? ⟨g, 2, none⟩ = some pv0 := (by simp [World.cell?, K4]); have q4 : w4.frozen? ⟨g, 2, none⟩ = false := (by simp [World.frozen?, K4]); have HK4 : Hid (w4.heap[g]? = _) := K4; clear ho4 hb4 K4)
  generalize hW5 : World.setCell _ _ _ = W5
  have HK5 : Hid (W5.heap[g]? = some (.cells #[.string t, .slice bo G.length c, .slice ap ps.length cp, .int .i64 st, .int .i64 se, .int .i64 pa] 27 (0, 0))) := by rw [← hW5]; exact ma_set _ HK4.out
  have HF5 : Hid (Fr w4 W5 (fun k => k = g)) := by rw [← hW5]; exact Fr.setCell _ _ _ rfl
  have HR5 : Hid (W5.heap[gr]? = some (.cells #[.string ⟨#[]⟩, .slice none 0 0, .slice none 0 0, .int .i64 0, .int .i64 0, .int .i64 0] 27 (0, 0))) := (HF5.out.block gr (by have := ma_lt HR3.out; have := HB4.out.size; omega) (fun e => by have := HLt.out; omega)).trans ((HB4.out.block gr (ma_lt HR3.out)).trans HR3.out)
  clear hW5
  go_wp2_with (first
    | (refine wpList_load_row rfl 27 _ rfl g rfl 27 #[.string t, .slice bo G.length c, .slice ap ps.length cp, .int .i64 st, .int .i64 se, .int .i64 pa] (0, 0) _ HK5.out Tryz.underlying27 rfl size_jobJ ?_)
    | (refine wpList_store_row rfl 27 _ _ rfl gr #[.string t, .slice bo G.length c, .slice ap ps.length cp, .int .i64 st, .int .i64 se, .int .i64 pa] rfl rfl 27 #[.string ⟨#[]⟩, .slice none 0 0, .slice none 0 0, .int .i64 0, .int .i64 0, .int .i64 0] HR5.out size_jobJ rfl (by simp [Value.oneCell']) ?_))
  refine bodyPost_ret (v := .agg #[.string t, .slice bo G.length c, .slice ap ps.length cp, .int .i64 st, .int .i64 se, .int .i64 pa]) (results_cell_row Tryz.results82 _ _ gr 27 _ (0, 0) _ rfl (setRow_heap _ _ _ _ _ _ HR5.out) Tryz.underlying27 rfl size_jobJ) rfl ?_
  have hf6 := ap_setRow W5 gr #[.string t, .slice bo G.length c, .slice ap ps.length cp, .int .i64 st, .int .i64 se, .int .i64 pa]
  have hs3 : W1.heap.size ≤ W3.heap.size := Nat.le_trans HB2.out.size HF3.out.size
  have hs5 : W3.heap.size ≤ W5.heap.size := Nat.le_trans HB4.out.size HF5.out.size
  refine ⟨bo, c, _, rfl, ?_, ?_, ?_⟩
  · have v4 := HV3.out.new HB4.out
    have v5 := v4.kept (Q := fun k => W1.heap.size ≤ k) HF5.out (fun k _ hp => ⟨fun e => by have := HLt.out; omega, hp⟩)
    exact v5.kept hf6 (fun k _ hp => ⟨fun e => by have := HLt.out; omega, by have := HB.out.size; omega⟩)
  · have o5 := HO4.out.kept HF5.out (fun k hk e => by have := (GO.lt HO4.out k hk).1; have := ma_lt HK3.out; omega)
    have o6 := o5.kept hf6 (fun k hk e => by have := (GO.lt HO4.out k hk).1; have := ma_lt HR3.out; omega)
    exact o6.lower HB3.out.size
  · exact ((HB3.out.trans (HB4.out.mono HB3.out.size)).trans (HF5.out.below (Nat.le_trans HB3.out.size HB4.out.size) (fun k hk => by have := HG.out; omega))).trans (hf6.below (Nat.le_trans HB3.out.size hs5) (fun k hk => by have := HG.out; have := HLt.out; omega))
end Go.Proofs.YtidghoipmggklaaGreat
end

section
/- Layer 2's numbers without any program: a whole number as 64 bits hold it, and its error. -/
namespace Go.Proofs.YtidghoipmggklaaGreat
open Go.RowKit

/-- The value that is told of a whole number: itself where 64 bits hold it, else 0. -/
def hv (n : Int) : Int := if -9223372036854775808 ≤ n ∧ n ≤ 9223372036854775807 then n else 0
/-- The error that is told of it. -/
def he (n : Int) : Int := if -9223372036854775808 ≤ n ∧ n ≤ 9223372036854775807 then 0 else 20
theorem hv_bd (n : Int) : -9223372036854775808 ≤ hv n ∧ hv n ≤ 9223372036854775807 := by
  unfold hv; split <;> omega
end Go.Proofs.YtidghoipmggklaaGreat
end

section
/- agg.known, agg.join and the document's join at any values. -/
namespace Go.Proofs.YtidghoipmggklaaGreat
open Go.RowKit

theorem ret_b {a b : Bool} (h : a = b) : Ending.returned (.bool a) = .returned (.bool b) := by rw [h]
theorem known_in (k : Int) (w : World) (h : 0 ≤ k) (h' : k ≤ 4) : Calls Tryz.prog 190 #[.int .i64 k] w fun e w' => e = .returned (.bool true) ∧ w' = w := by
  go_enter Tryz.func190, Tryz.ntmps190
  go_wp2
  all_goals first | (exfalso; omega) | (go_ret; exact ⟨ret_b (by simp; omega), rfl⟩)
theorem known_out (k : Int) (w : World) (h : ¬ (0 ≤ k ∧ k ≤ 4)) : Calls Tryz.prog 190 #[.int .i64 k] w fun e w' => e = .returned (.bool false) ∧ w' = w := by
  go_enter Tryz.func190, Tryz.ntmps190
  go_wp2
  all_goals first | (exfalso; omega) | (go_ret; exact ⟨ret_b (by first | rfl | (simp; omega)), rfl⟩)

/-- The bits that two numbers have in common, and those of either. -/
def andI (a b : Int) : Int := IntKind.i64.wrap ((BitVec.ofInt IntKind.i64.bits a &&& BitVec.ofInt IntKind.i64.bits b).toNat : Int)
def orI (a b : Int) : Int := IntKind.i64.wrap ((BitVec.ofInt IntKind.i64.bits a ||| BitVec.ofInt IntKind.i64.bits b).toNat : Int)
/-- Two values of a kind as one, where there is room; the error. -/
def jv (k : Nat) (a b : Int) : Int :=
  match k with
  | 0 => hv (a + b)
  | 1 => if b < a then b else a
  | 2 => if a < b then b else a
  | 3 => andI a b
  | _ => orI a b
def je (k : Nat) (a b : Int) : Int := if k = 0 then he (a + b) else 0
end Go.Proofs.YtidghoipmggklaaGreat
end

section
/- agg.Add at any aggregate, kind by kind. -/
namespace Go.Proofs.YtidghoipmggklaaGreat
open Go.RowKit

/-- An aggregate as a value: five flags, five numbers. -/
def AG (h : Nat → Bool) (v : Nat → Int) : Value := .agg #[.bool (h 0), .bool (h 1), .bool (h 2), .bool (h 3), .bool (h 4), .int .i64 (v 0), .int .i64 (v 1), .int .i64 (v 2), .int .i64 (v 3), .int .i64 (v 4)]
def updA {α : Type} (f : Nat → α) (k : Nat) (a : α) : Nat → α := fun i => if i = k then a else f i

end Go.Proofs.YtidghoipmggklaaGreat
end

section
/- agg.Add, agg.Get and the document's add: contracts over aggregates whose kinds have a value or none. -/
namespace Go.Proofs.YtidghoipmggklaaGreat
open Go.RowKit

def oh (o : Nat → Option Int) (i : Nat) : Bool := (o i).isSome
def ov (o : Nat → Option Int) (i : Nat) : Int := (o i).getD 0
/-- The value of an aggregate of which each kind has a number, or none (then 0 stands there). -/
def AO (o : Nat → Option Int) : Value := AG (oh o) (ov o)
/-- The aggregate behind a value given to a kind, and the error. -/
def addO (o : Nat → Option Int) (k x : Int) : Nat → Option Int :=
  if 0 ≤ k ∧ k ≤ 4 then
    match o k.toNat with
    | none => updA o k.toNat (some x)
    | some y => if je k.toNat y x = 0 then updA o k.toNat (some (jv k.toNat y x)) else o
  else o
def I6 (x : Int) : Prop := -9223372036854775808 ≤ x ∧ x ≤ 9223372036854775807
def OkO (o : Nat → Option Int) : Prop := ∀ i y, o i = some y → I6 y
theorem wrap_bd (n : Int) : -9223372036854775808 ≤ IntKind.i64.wrap n ∧ IntKind.i64.wrap n ≤ 9223372036854775807 := by
  rw [IntKind.wrap_i64]
  try unfold wrap64
  omega
theorem jv_bd {k : Nat} {a b : Int} (ha : I6 a) (hb : I6 b) : I6 (jv k a b) := by
  unfold I6 at *
  unfold jv
  split
  · exact hv_bd _
  · split <;> assumption
  · split <;> assumption
  · exact wrap_bd _
  · exact wrap_bd _
theorem updA_at {α : Type} (f : Nat → α) (k : Nat) (a : α) : updA f k a k = a := if_pos rfl
theorem updA_ne {α : Type} (f : Nat → α) {k i : Nat} (a : α) (h : i ≠ k) : updA f k a i = f i := if_neg h
theorem OkO.updA {o : Nat → Option Int} (h : OkO o) (k : Nat) {x : Int} (hx : I6 x) : OkO (updA o k (some x)) := by
  intro i y e
  by_cases hi : i = k
  · subst hi; rw [updA_at] at e; cases e; exact hx
  · rw [updA_ne _ _ hi] at e; exact h i y e
theorem OkO.add {o : Nat → Option Int} (h : OkO o) (k : Int) {x : Int} (hx : I6 x) : OkO (addO o k x) := by
  unfold addO
  split
  · split
    · exact h.updA _ hx
    · rename_i y e
      split
      · exact h.updA _ (jv_bd (h _ _ e) hx)
      · exact h
  · exact h
theorem OkO.none : OkO (fun _ => none) := fun _ _ e => by cases e
theorem oh_some {o : Nat → Option Int} {k : Nat} {y : Int} (h : o k = some y) : oh o k = true := by unfold oh; rw [h]; rfl
theorem ov_some {o : Nat → Option Int} {k : Nat} {y : Int} (h : o k = some y) : ov o k = y := by unfold ov; rw [h]; rfl
theorem oh_none {o : Nat → Option Int} {k : Nat} (h : o k = none) : oh o k = false := by unfold oh; rw [h]; rfl
theorem kind5 {k : Int} (h : 0 ≤ k ∧ k ≤ 4) : k = ((0 : Nat) : Int) ∨ k = ((1 : Nat) : Int) ∨ k = ((2 : Nat) : Int) ∨ k = ((3 : Nat) : Int) ∨ k = ((4 : Nat) : Int) := by omega

end Go.Proofs.YtidghoipmggklaaGreat
end

section
/- agg.Get, and two aggregates held against one another. -/
namespace Go.Proofs.YtidghoipmggklaaGreat
open Go.RowKit

theorem get_out (h : Nat → Bool) (v : Nat → Int) (k : Int) (w : World) (hk : ¬ (0 ≤ k ∧ k ≤ 4)) :
    Calls Tryz.prog 146 #[AG h v, .int .i64 k] w fun e w' => e = .returned (.tuple #[.int .i64 0, .bool false]) ∧ Below w.heap.size w w' := by
  have hu : undef = Value.tuple #[] := rfl
  unfold AG
  go_enter Tryz.func146, Tryz.ntmps146
  go_wp2_with (go_at_call 190; refine (known_out k _ hk).mono ?_; rintro e w1 ⟨rfl, rfl⟩)
  go_returns
  exact ⟨rfl, by go_grown⟩
theorem get_yes0 (h : Nat → Bool) (v : Nat → Int) (w : World) (hh : h 0 = true) :
    Calls Tryz.prog 146 #[AG h v, .int .i64 0] w fun e w' => e = .returned (.tuple #[.int .i64 (v 0), .bool true]) ∧ Below w.heap.size w w' := by
  unfold AG
  go_enter Tryz.func146, Tryz.ntmps146
  go_wp2_with (go_at_call 190; refine (known_in _ _ (by decide) (by decide)).mono ?_; rintro e w1 ⟨rfl, rfl⟩)
  go_returns
  exact ⟨rfl, by go_grown⟩
theorem get_no0 (h : Nat → Bool) (v : Nat → Int) (w : World) (hh : h 0 = false) :
    Calls Tryz.prog 146 #[AG h v, .int .i64 0] w fun e w' => e = .returned (.tuple #[.int .i64 0, .bool false]) ∧ Below w.heap.size w w' := by
  unfold AG
  go_enter Tryz.func146, Tryz.ntmps146
  go_wp2_with (go_at_call 190; refine (known_in _ _ (by decide) (by decide)).mono ?_; rintro e w1 ⟨rfl, rfl⟩)
  go_returns
  exact ⟨rfl, by go_grown⟩
theorem get_yes1 (h : Nat → Bool) (v : Nat → Int) (w : World) (hh : h 1 = true) :
    Calls Tryz.prog 146 #[AG h v, .int .i64 1] w fun e w' => e = .returned (.tuple #[.int .i64 (v 1), .bool true]) ∧ Below w.heap.size w w' := by
  unfold AG
  go_enter Tryz.func146, Tryz.ntmps146
  go_wp2_with (go_at_call 190; refine (known_in _ _ (by decide) (by decide)).mono ?_; rintro e w1 ⟨rfl, rfl⟩)
  go_returns
  exact ⟨rfl, by go_grown⟩
theorem get_no1 (h : Nat → Bool) (v : Nat → Int) (w : World) (hh : h 1 = false) :
    Calls Tryz.prog 146 #[AG h v, .int .i64 1] w fun e w' => e = .returned (.tuple #[.int .i64 0, .bool false]) ∧ Below w.heap.size w w' := by
  unfold AG
  go_enter Tryz.func146, Tryz.ntmps146
  go_wp2_with (go_at_call 190; refine (known_in _ _ (by decide) (by decide)).mono ?_; rintro e w1 ⟨rfl, rfl⟩)
  go_returns
  exact ⟨rfl, by go_grown⟩
theorem get_yes2 (h : Nat → Bool) (v : Nat → Int) (w : World) (hh : h 2 = true) :
    Calls Tryz.prog 146 #[AG h v, .int .i64 2] w fun e w' => e = .returned (.tuple #[.int .i64 (v 2), .bool true]) ∧ Below w.heap.size w w' := by
  unfold AG
  go_enter Tryz.func146, Tryz.ntmps146
  go_wp2_with (go_at_call 190; refine (known_in _ _ (by decide) (by decide)).mono ?_; rintro e w1 ⟨rfl, rfl⟩)
  go_returns
  exact ⟨rfl, by go_grown⟩
theorem get_no2 (h : Nat → Bool) (v : Nat → Int) (w : World) (hh : h 2 = false) :
    Calls Tryz.prog 146 #[AG h v, .int .i64 2] w fun e w' => e = .returned (.tuple #[.int .i64 0, .bool false]) ∧ Below w.heap.size w w' := by
  unfold AG
  go_enter Tryz.func146, Tryz.ntmps146
  go_wp2_with (go_at_call 190; refine (known_in _ _ (by decide) (by decide)).mono ?_; rintro e w1 ⟨rfl, rfl⟩)
  go_returns
  exact ⟨rfl, by go_grown⟩
theorem get_yes3 (h : Nat → Bool) (v : Nat → Int) (w : World) (hh : h 3 = true) :
    Calls Tryz.prog 146 #[AG h v, .int .i64 3] w fun e w' => e = .returned (.tuple #[.int .i64 (v 3), .bool true]) ∧ Below w.heap.size w w' := by
  unfold AG
  go_enter Tryz.func146, Tryz.ntmps146
  go_wp2_with (go_at_call 190; refine (known_in _ _ (by decide) (by decide)).mono ?_; rintro e w1 ⟨rfl, rfl⟩)
  go_returns
  exact ⟨rfl, by go_grown⟩
theorem get_no3 (h : Nat → Bool) (v : Nat → Int) (w : World) (hh : h 3 = false) :
    Calls Tryz.prog 146 #[AG h v, .int .i64 3] w fun e w' => e = .returned (.tuple #[.int .i64 0, .bool false]) ∧ Below w.heap.size w w' := by
  unfold AG
  go_enter Tryz.func146, Tryz.ntmps146
  go_wp2_with (go_at_call 190; refine (known_in _ _ (by decide) (by decide)).mono ?_; rintro e w1 ⟨rfl, rfl⟩)
  go_returns
  exact ⟨rfl, by go_grown⟩
theorem get_yes4 (h : Nat → Bool) (v : Nat → Int) (w : World) (hh : h 4 = true) :
    Calls Tryz.prog 146 #[AG h v, .int .i64 4] w fun e w' => e = .returned (.tuple #[.int .i64 (v 4), .bool true]) ∧ Below w.heap.size w w' := by
  unfold AG
  go_enter Tryz.func146, Tryz.ntmps146
  go_wp2_with (go_at_call 190; refine (known_in _ _ (by decide) (by decide)).mono ?_; rintro e w1 ⟨rfl, rfl⟩)
  go_returns
  exact ⟨rfl, by go_grown⟩
theorem get_no4 (h : Nat → Bool) (v : Nat → Int) (w : World) (hh : h 4 = false) :
    Calls Tryz.prog 146 #[AG h v, .int .i64 4] w fun e w' => e = .returned (.tuple #[.int .i64 0, .bool false]) ∧ Below w.heap.size w w' := by
  unfold AG
  go_enter Tryz.func146, Tryz.ntmps146
  go_wp2_with (go_at_call 190; refine (known_in _ _ (by decide) (by decide)).mono ?_; rintro e w1 ⟨rfl, rfl⟩)
  go_returns
  exact ⟨rfl, by go_grown⟩

def getO (o : Nat → Option Int) (k : Int) : Option Int := if 0 ≤ k ∧ k ≤ 4 then o k.toNat else none
theorem getO_out {o : Nat → Option Int} {k : Int} (h : ¬ (0 ≤ k ∧ k ≤ 4)) : getO o k = none := if_neg h
theorem getO_in {o : Nat → Option Int} {k : Nat} (h : k ≤ 4) : getO o (k : Int) = o k := by
  unfold getO
  rw [if_pos (by omega), Int.toNat_natCast]
theorem get_any (o : Nat → Option Int) (k : Int) (w : World) :
    Calls Tryz.prog 146 #[AO o, .int .i64 k] w fun e w' => e = .returned (.tuple #[.int .i64 ((getO o k).getD 0), .bool (getO o k).isSome]) ∧ Below w.heap.size w w' := by
  by_cases hk : 0 ≤ k ∧ k ≤ 4
  · rcases kind5 hk with rfl | rfl | rfl | rfl | rfl
    · rw [getO_in (by decide)]
      cases e : o 0 with
      | none => exact get_no0 (oh o) (ov o) w (oh_none e)
      | some y => exact (get_yes0 (oh o) (ov o) w (oh_some e)).mono fun e' w' h => ⟨h.1.trans (by rw [ov_some e]; rfl), h.2⟩
    · rw [getO_in (by decide)]
      cases e : o 1 with
      | none => exact get_no1 (oh o) (ov o) w (oh_none e)
      | some y => exact (get_yes1 (oh o) (ov o) w (oh_some e)).mono fun e' w' h => ⟨h.1.trans (by rw [ov_some e]; rfl), h.2⟩
    · rw [getO_in (by decide)]
      cases e : o 2 with
      | none => exact get_no2 (oh o) (ov o) w (oh_none e)
      | some y => exact (get_yes2 (oh o) (ov o) w (oh_some e)).mono fun e' w' h => ⟨h.1.trans (by rw [ov_some e]; rfl), h.2⟩
    · rw [getO_in (by decide)]
      cases e : o 3 with
      | none => exact get_no3 (oh o) (ov o) w (oh_none e)
      | some y => exact (get_yes3 (oh o) (ov o) w (oh_some e)).mono fun e' w' h => ⟨h.1.trans (by rw [ov_some e]; rfl), h.2⟩
    · rw [getO_in (by decide)]
      cases e : o 4 with
      | none => exact get_no4 (oh o) (ov o) w (oh_none e)
      | some y => exact (get_yes4 (oh o) (ov o) w (oh_some e)).mono fun e' w' h => ⟨h.1.trans (by rw [ov_some e]; rfl), h.2⟩
  · rw [getO_out hk]
    exact get_out (oh o) (ov o) k w hk

theorem sizes_ag : (Tryz.prog.info? 2).map (fun i => i.size) = some 1 ∧ (Tryz.prog.info? 4).map (fun i => i.size) = some 1 ∧ (Tryz.prog.info? 51).map (fun i => i.size) = some 5 ∧ (Tryz.prog.info? 52).map (fun i => i.size) = some 5 := ⟨by kernel_rfl, by kernel_rfl, by kernel_rfl, by kernel_rfl⟩
theorem part_b (w : World) (a b c d e : Bool) (i : Nat) (hi : i < 5) : ∃ x, (part 4 #[.bool a, .bool b, .bool c, .bool d, .bool e] i).run Tryz.prog w = .ok (.bool x) w := by
  obtain ⟨j, hj, hs⟩ := Option.map_eq_some_iff.1 sizes_ag.2.1
  have hc : i = 0 ∨ i = 1 ∨ i = 2 ∨ i = 3 ∨ i = 4 := by omega
  rcases hc with rfl | rfl | rfl | rfl | rfl <;> simp [part, typeInfo, hj, hs, sizeOf]
theorem part_i (w : World) (a b c d e : Int) (i : Nat) (hi : i < 5) : ∃ x, (part 2 #[.int .i64 a, .int .i64 b, .int .i64 c, .int .i64 d, .int .i64 e] i).run Tryz.prog w = .ok (.int .i64 x) w := by
  obtain ⟨j, hj, hs⟩ := Option.map_eq_some_iff.1 sizes_ag.1
  have hc : i = 0 ∨ i = 1 ∨ i = 2 ∨ i = 3 ∨ i = 4 := by omega
  rcases hc with rfl | rfl | rfl | rfl | rfl <;> simp [part, typeInfo, hj, hs, sizeOf]
theorem eq_same_h (w : World) (a b c d e : Bool) (n : Nat) : (Op.equalIn (n + 2) 51 (.agg #[.bool a, .bool b, .bool c, .bool d, .bool e]) (.agg #[.bool a, .bool b, .bool c, .bool d, .bool e])).run Tryz.prog w = .ok true w := by
  unfold Op.equalIn
  obtain ⟨x0, h0⟩ := part_b w a b c d e 0 (by decide)
  obtain ⟨x1, h1⟩ := part_b w a b c d e 1 (by decide)
  obtain ⟨x2, h2⟩ := part_b w a b c d e 2 (by decide)
  obtain ⟨x3, h3⟩ := part_b w a b c d e 3 (by decide)
  obtain ⟨x4, h4⟩ := part_b w a b c d e 4 (by decide)
  have hq := fun x => run_equalIn_bool' (P := Tryz.prog) w n 4 x x Tryz.underlying4
  simp [run_underlying Tryz.underlying51, show List.range' 0 5 = [0, 1, 2, 3, 4] from rfl, h0, h1, h2, h3, h4, hq]
theorem eq_same_v (w : World) (a b c d e : Int) (n : Nat) : (Op.equalIn (n + 2) 52 (.agg #[.int .i64 a, .int .i64 b, .int .i64 c, .int .i64 d, .int .i64 e]) (.agg #[.int .i64 a, .int .i64 b, .int .i64 c, .int .i64 d, .int .i64 e])).run Tryz.prog w = .ok true w := by
  unfold Op.equalIn
  obtain ⟨x0, h0⟩ := part_i w a b c d e 0 (by decide)
  obtain ⟨x1, h1⟩ := part_i w a b c d e 1 (by decide)
  obtain ⟨x2, h2⟩ := part_i w a b c d e 2 (by decide)
  obtain ⟨x3, h3⟩ := part_i w a b c d e 3 (by decide)
  obtain ⟨x4, h4⟩ := part_i w a b c d e 4 (by decide)
  have hq := fun x => run_equalIn_int (P := Tryz.prog) w n 2 .i64 .i64 x x Tryz.underlying2
  simp [run_underlying Tryz.underlying52, show List.range' 0 5 = [0, 1, 2, 3, 4] from rfl, h0, h1, h2, h3, h4, hq]
end Go.Proofs.YtidghoipmggklaaGreat
end
