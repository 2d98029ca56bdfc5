import Derived.Test.YthkfbaoeimjgaaaGreatMaJbM
import Derived.Test.YthkfbaoeimjgaaaGreatRnCheckM
import Derived.Lib.LazyBuf
import Derived.Laws.ResultCell
section
/- Who awaits: the first worker of a row; a course's has and awaits. -/
namespace Go.Proofs.YthkfbaoeimjgaaaGreat
open Go.RowKit Go.Maps
attribute [local go_sem] Oper.semAt_some
theorem sindex_first {w : World} {b o n c : Nat} {y : Int} (hn : 0 < n) (c0 : w.cell? ⟨b, o, none⟩ = some (.int .i64 y)) : Calls Tryz.prog 217 #[.slice (some ⟨b, o, none⟩) n c, .int .i64 y] w fun r w' => r = .returned (.int .i64 0) ∧ w' = w := by
  go_enter Tryz.func217, Tryz.ntmps217
  go_wp2
  go_loopw [5, 8] (fun _ i wr => i = .int .i64 0 ∧ wr = w) (fun _ _ _ => 0)
  case atStart => exact ⟨rfl, rfl⟩
  case round =>
    obtain ⟨rfl, rfl⟩ := hrel
    go_wp2
    go_ret
    exact ⟨rfl, rfl⟩
theorem scontains_first {w : World} {b o n c : Nat} {y : Int} (hn : 0 < n) (c0 : w.cell? ⟨b, o, none⟩ = some (.int .i64 y)) : Calls Tryz.prog 177 #[.slice (some ⟨b, o, none⟩) n c, .int .i64 y] w fun r w' => r = .returned (.bool true) ∧ w' = w := by
  have h1 := sindex_first (c := c) hn c0
  clear c0
  go_enter Tryz.func177, Tryz.ntmps177
  go_wp2_with (go_at_call 217; refine h1.mono ?_; rintro r w1 ⟨rfl, rfl⟩)
  go_ret
  exact ⟨rfl, rfl⟩
/-- A course whose first partition is a worker's has it. -/
theorem chas_first {w : World} {q b o n c : Nat} {y : Int} (hn : 0 < n) (c4 : w.cell? ⟨q, 4, none⟩ = some (.slice (some ⟨b, o, none⟩) n c)) (c0 : w.cell? ⟨b, o, none⟩ = some (.int .i64 y)) : Calls Tryz.prog 131 #[.pointer (some ⟨q, 0, none⟩), .int .i64 y] w fun r w' => r = .returned (.bool true) ∧ w' = w := by
  have h1 := scontains_first (c := c) hn c0
  clear c0
  go_enter Tryz.func131, Tryz.ntmps131
  go_wp2_with (go_at_call 177; refine h1.mono ?_; rintro r w1 ⟨rfl, rfl⟩)
  go_ret
  exact ⟨rfl, rfl⟩
def rpZ : List Value := [.bool false, .int .i64 0, .int .i64 0, .int .i64 0] ++ agZ ++ [.slice none 0 0]
theorem rzero (w : World) : (zeroValue 227).run Tryz.prog w = .ok (.agg rpZ.toArray) w := by kernel_rfl
theorem size_rep : (Tryz.prog.info? 227).map (·.size) = some 15 := by kernel_rfl
/-- A look into a map of reports that is empty. -/
theorem rnone_look {w : World} {b : Nat} (hd : w.heap[b]? = some (.map #[] 0)) {x : Int} (hx : W6 x) : (Instr.lookup 162 (.map (some b)) (.int .i64 x) true).run Tryz.prog w = .ok (.tuple #[.agg rpZ.toArray, .bool false]) w := by
  have h : w.ownsMap Tryz.prog 3 wR b 0 (.map []) := by
    obtain ⟨es, ck, h1, F, h2, h3⟩ := World.ownsMap_made w Tryz.prog 3 wR
    have h4 := heap_alloc_new w (.map #[] 0)
    rw [h4] at h1
    injection h1 with h1
    injection h1 with e1 e2
    subst e1 e2
    exact ⟨#[], 0, hd, F, h2, h3⟩
  obtain ⟨v, ps, hrun, hv⟩ := h.look_ok wlaw Tryz.underlying162 (z := .agg rpZ.toArray) (rzero w) (zd := .held (.agg rpZ.toArray)) (zp := []) rfl (wkey hx)
  have hat : (DataW.map [] : DataW Value).atKey (.int .i64 x) (.held (.agg rpZ.toArray)) = .held (.agg rpZ.toArray) := rfl
  have hha : Maps.has (DataW.map [] : DataW Value) (.int .i64 x) = false := rfl
  rw [hat] at hv
  unfold wR at hv
  simp only [Option.some.injEq, Prod.mk.injEq, DataW.held.injEq] at hv
  rw [hrun, hha, hv.1]
set_option maxRecDepth 100000 in
set_option maxHeartbeats 1000000 in
/-- A course whose first partition is a worker's, and that heard nobody, awaits it. -/
theorem cawaits_first {w : World} {q hb b o n c : Nat} {y : Int} (hn : 0 < n) (hy : W6 y) (c4 : w.cell? ⟨q, 4, none⟩ = some (.slice (some ⟨b, o, none⟩) n c)) (c5 : w.cell? ⟨q, 5, none⟩ = some (.map (some hb))) (c0 : w.cell? ⟨b, o, none⟩ = some (.int .i64 y)) (hd : w.heap[hb]? = some (.map #[] 0)) : Calls Tryz.prog 79 #[.pointer (some ⟨q, 0, none⟩), .int .i64 y] w fun r w' => r = .returned (.bool true) ∧ Below w.heap.size w w' := by
  have h1 := chas_first hn c4 c0
  have hl := rnone_look hd hy
  obtain ⟨W, hW⟩ : ∃ W, w.alloc (.cells #[.bool false, .int .i64 0, .int .i64 0, .int .i64 0, .bool false, .bool false, .bool false, .bool false, .bool false, .int .i64 0, .int .i64 0, .int .i64 0, .int .i64 0, .int .i64 0, .slice none 0 0] 227) = W := ⟨_, rfl⟩
  have HB : Hid (Below w.heap.size w W) := by rw [← hW]; exact ma_new _ _
  have k0 := heap_alloc_new w (.cells #[.bool false, .int .i64 0, .int .i64 0, .int .i64 0, .bool false, .bool false, .bool false, .bool false, .bool false, .int .i64 0, .int .i64 0, .int .i64 0, .int .i64 0, .int .i64 0, .slice none 0 0] 227)
  rw [hW] at k0
  have HK : Hid (W.heap[w.heap.size]? = some (.cells #[.bool false, .int .i64 0, .int .i64 0, .int .i64 0, .bool false, .bool false, .bool false, .bool false, .bool false, .int .i64 0, .int .i64 0, .int .i64 0, .int .i64 0, .int .i64 0, .slice none 0 0] 227 (0, 0))) := k0
  obtain ⟨g, hg⟩ : ∃ g, w.heap.size = g := ⟨_, rfl⟩
  have HG : Hid (w.heap.size = g) := hg
  rw [hg] at HK HB
  clear c0 hd c4 k0
  go_enter Tryz.func79, Tryz.ntmps79
  go_wp2_with (first
    | (go_at_call 131; refine h1.mono ?_; rintro r w1 ⟨rfl, rfl⟩)
    | (refine wpList_store_row rfl 227 _ _ rfl g rpZ.toArray rfl rfl 227 #[.bool false, .int .i64 0, .int .i64 0, .int .i64 0, .bool false, .bool false, .bool false, .bool false, .bool false, .int .i64 0, .int .i64 0, .int .i64 0, .int .i64 0, .int .i64 0, .slice none 0 0] HK.out size_rep rfl (by simp [rpZ, agZ, Value.oneCell']) ?_))
  go_ret
  exact ⟨rfl, by rw [HG.out]; exact HB.out.trans ((ap_setRow W g _).below (by have := HB.out.size; have := HG.out; omega) (fun k hk => by have := HG.out; omega))⟩
end Go.Proofs.YthkfbaoeimjgaaaGreat
end

section
/- A job's copy: the copy of its numbers, of the job. -/
namespace Go.Proofs.YthkfbaoeimjgaaaGreat
open Go.RowKit Go.Maps
attribute [local go_sem] Oper.semAt_some
theorem gT_i64 : GT ie 1 8 25 2 := by
  refine ⟨Tryz.underlying25, ?_, ie_len, fun x u hu => by simp only [ie, List.mem_singleton] at hu; subst hu; rfl, by decide, by decide⟩
  cases h : Tryz.prog.info? 2 with
  | none =>
    have : (Tryz.prog.info? 2).isSome = true := by kernel_rfl
    rw [h] at this
    cases this
  | some i =>
    have h1 : (Tryz.prog.info? 2).map (·.zero) = some (some (.int .i64 0)) := by kernel_rfl
    have h2 : (Tryz.prog.info? 2).map (·.size) = some 1 := by kernel_rfl
    have h3 : (Tryz.prog.info? 2).map (·.bytes) = some 8 := by kernel_rfl
    rw [h] at h1 h2 h3
    exact ⟨i, _, rfl, by simpa using h1, by simpa using h2, by simpa using h3, rfl⟩
set_option maxRecDepth 100000 in
theorem sclone64 {w : World} {v : Value} {L : List Int} (h : GS ie w v L) (hl : L.length * 8 ≤ 140737488355328) : Calls Tryz.prog 139 #[v] w fun r w' => ∃ v', r = .returned v' ∧ GO ie 1 2 w' w.heap.size v' L ∧ Below w.heap.size w w' := by
  obtain ⟨ao, c, rfl, hc, hs⟩ := h
  have q22 : ∀ (w : World) (a : Option Addr) (n c n' c' : Nat), (binOp .eql 25 (.slice a n c) (.slice none n' c')).run Tryz.prog w = .ok (.bool a.isNone) w := fun w a n c n' c' => Lib.run_eql_slice_nil w _ _ a n c n' c' Tryz.underlying25
  cases ao with
  | none =>
    have h0 : L = [] := by
      rcases Nat.eq_zero_or_pos L.length with h0 | h0
      · exact List.eq_nil_of_length_eq_zero h0
      · obtain ⟨b, off, e, _⟩ := hs h0
        cases e
    subst h0
    clear hs hc hl
    go_enter Tryz.func139, Tryz.ntmps139
    go_wp2
    go_ret
    exact ⟨_, rfl, GO.nil _ _ _ _ _, Below.refl _ _⟩
  | some a =>
    have HS : Hid (GS ie w (.slice (some a) L.length c) L) := ⟨_, _, rfl, hc, hs⟩
    have HL : Hid (L.length * 8 ≤ 140737488355328) := hl
    obtain ⟨W, hW⟩ : ∃ W, w.alloc (.cells #[] 2) = W := ⟨_, rfl⟩
    have HB : Hid (Below w.heap.size w W) := by rw [← hW]; exact ma_new _ _
    have k0 := heap_alloc_new w (.cells #[] 2)
    rw [hW] at k0
    have HM : Hid (GO ie 1 2 W w.heap.size (.slice (some ⟨w.heap.size, 0, none⟩) 0 0) []) := GO.made k0
    clear hs hc hl k0
    go_enter Tryz.func139, Tryz.ntmps139
    go_wp2_with (at_builtin; refine wpl_appG gT_i64 rfl rfl rfl rfl (R := []) (S := L) HM.out (GS.new HS.out HB.out) (by have := HL.out; simp; omega) HB.out.size ?_; intro v2 w2 ho2 hf2 _)
    go_ret
    exact ⟨_, rfl, ho2, HB.out.trans (hf2.below HB.out.size (fun k hk => (GO.lt HM.out k hk).1))⟩
set_option maxRecDepth 100000 in
set_option maxHeartbeats 1000000 in
/-- A job's copy. -/
theorem mclone {w : World} {P : Nat → Prop} {t : ByteArray} {go : Option Addr} {gc : Nat} {pv0 : Value} {G : List Vx} {ps : List Int} {st se pa : Int} (hG : VxAt w P go G) (hok : ∀ v ∈ G, v.ok) (hgl : G.length * 40 ≤ 140737488355328) (hp : GS ie w pv0 ps) (hpl : ps.length * 8 ≤ 140737488355328) :
    Calls Tryz.prog 82 #[.agg #[.string t, .slice go G.length gc, pv0, .int .i64 st, .int .i64 se, .int .i64 pa]] w fun r w' => ∃ bo c v', r = .returned (.agg #[.string t, .slice bo G.length c, v', .int .i64 st, .int .i64 se, .int .i64 pa]) ∧ VxAt w' (fun k => w.heap.size ≤ k) bo G ∧ GO ie 1 2 w' w.heap.size v' ps ∧ Below w.heap.size w w' := by
  obtain ⟨W0, hW0⟩ : ∃ W0, w.alloc (.cells #[.string t, .slice go G.length gc, pv0, .int .i64 st, .int .i64 se, .int .i64 pa] 27) = W0 := ⟨_, rfl⟩
  obtain ⟨W1, hW1⟩ : ∃ W1, W0.alloc (.cells #[.string ⟨#[]⟩, .slice none 0 0, .slice none 0 0, .int .i64 0, .int .i64 0, .int .i64 0] 27) = W1 := ⟨_, rfl⟩
  have b0 : Below w.heap.size w W0 := by rw [← hW0]; exact ma_new _ _
  have b1 : Below W0.heap.size W0 W1 := by rw [← hW1]; exact ma_new _ _
  have k0 := heap_alloc_new w (.cells #[.string t, .slice go G.length gc, pv0, .int .i64 st, .int .i64 se, .int .i64 pa] 27)
  have k1 := heap_alloc_new W0 (.cells #[.string ⟨#[]⟩, .slice none 0 0, .slice none 0 0, .int .i64 0, .int .i64 0, .int .i64 0] 27)
  rw [hW0] at k0
  rw [hW1] at k1
  obtain ⟨g, hg⟩ : ∃ g, w.heap.size = g := ⟨_, rfl⟩
  obtain ⟨gr, hgr⟩ : ∃ gr, W0.heap.size = gr := ⟨_, rfl⟩
  have HG : Hid (w.heap.size = g) := hg
  have HLt : Hid (g < gr ∧ gr < W1.heap.size) := ⟨by rw [← hg, ← hgr]; exact ma_lt k0, by rw [← hgr]; exact ma_lt k1⟩
  rw [hg] at k0
  rw [hgr] at k1
  have k0' := (b1.block g (ma_lt k0)).trans k0
  have HB : Hid (Below w.heap.size w W1) := b0.trans (b1.mono b0.size)
  have HVx : Hid (VxAt W1 P go G) := hG.new HB.out
  have HP0 : Hid (GS ie w pv0 ps) := hp
  have HOk : Hid (∀ v ∈ G, v.ok) := hok
  have HLn : Hid (G.length * 40 ≤ 140737488355328 ∧ ps.length * 8 ≤ 140737488355328) := ⟨hgl, hpl⟩
  have HK : Hid (W1.heap[g]? = some (.cells #[.string t, .slice go G.length gc, pv0, .int .i64 st, .int .i64 se, .int .i64 pa] 27 (0, 0))) := k0'
  have HR : Hid (W1.heap[gr]? = some (.cells #[.string ⟨#[]⟩, .slice none 0 0, .slice none 0 0, .int .i64 0, .int .i64 0, .int .i64 0] 27 (0, 0))) := k1
  have c1 : W1.cell? ⟨g, 1, none⟩ = some (.slice go G.length gc) := by simp [World.cell?, k0']
  clear b0 b1 k0 k1 k0' hG hok hgl hp hpl
  go_enter Tryz.func82, Tryz.ntmps82
  go_upto_region 2 with (go_at_call 138; refine (clone_any G gc HVx.out HOk.out HLn.out.1).mono ?_; rintro r w2 ⟨bo, c, rfl, hv2, hb2⟩; have HV2 : Hid (VxAt w2 (fun k => W1.heap.size ≤ k) bo G) := hv2; have HB2 : Hid (Below W1.heap.size W1 w2) := hb2; have K2 := (hb2.block g (ma_lt HK.out)).trans HK.out; have q1 : w2.cell? ⟨g, 1, none⟩ = some (.slice go G.length gc) := (by simp [World.cell?, K2]); have q2 : w2.frozen? ⟨g, 1, none⟩ = false := (by simp [World.frozen?, K2]); have HK2 : Hid (w2.heap[g]? = _) := K2; clear hv2 hb2 K2)
  generalize hW3 : World.setCell _ _ _ = W3
  have HK3 : Hid (W3.heap[g]? = some (.cells #[.string t, .slice bo G.length c, pv0, .int .i64 st, .int .i64 se, .int .i64 pa] 27 (0, 0))) := by rw [← hW3]; exact ma_set _ HK2.out
  have HF3 : Hid (Fr w2 W3 (fun k => k = g)) := by rw [← hW3]; exact Fr.setCell _ _ _ rfl
  have HB3 : Hid (Below w.heap.size w W3) := (HB.out.trans (HB2.out.mono HB.out.size)).trans (HF3.out.below (Nat.le_trans HB.out.size HB2.out.size) (fun k hk => by have := HG.out; omega))
  have HV3 : Hid (VxAt W3 (fun k => W1.heap.size ≤ k) bo G) := HV2.out.kept HF3.out (fun k _ hp => ⟨fun e => by have := HLt.out; omega, hp⟩)
  have HR3 : Hid (W3.heap[gr]? = some (.cells #[.string ⟨#[]⟩, .slice none 0 0, .slice none 0 0, .int .i64 0, .int .i64 0, .int .i64 0] 27 (0, 0))) := (HF3.out.block gr (by have := HB2.out.size; have := HLt.out; omega) (fun e => by have := HLt.out; omega)).trans ((HB2.out.block gr HLt.out.2).trans HR.out)
  have e2 : W3.cell? ⟨g, 2, none⟩ = some pv0 := by simp [World.cell?, HK3.out]
  clear hW3
  go_upto_region 3 with (go_at_call 139; refine (sclone64 (HP0.out.new HB3.out) HLn.out.2).mono ?_; rintro r w4 ⟨v4, rfl, ho4, hb4⟩; obtain ⟨ap, cp, rfl, -⟩ := ho4.shape; have HO4 : Hid (GO ie 1 2 w4 W3.heap.size (.slice ap ps.length cp) ps) := ho4; have HB4 : Hid (Below W3.heap.size W3 w4) := hb4; have K4 := (hb4.block g (ma_lt HK3.out)).trans HK3.out; have q3 : w4.cell? ⟨g, 2, none⟩ = some pv0 := (by simp [World.cell?, K4]); have q4 : w4.frozen? ⟨g, 2, none⟩ = false := (by simp [World.frozen?, K4]); have HK4 : Hid (w4.heap[g]? = _) := K4; clear ho4 hb4 K4)
  generalize hW5 : World.setCell _ _ _ = W5
  have HK5 : Hid (W5.heap[g]? = some (.cells #[.string t, .slice bo G.length c, .slice ap ps.length cp, .int .i64 st, .int .i64 se, .int .i64 pa] 27 (0, 0))) := by rw [← hW5]; exact ma_set _ HK4.out
  have HF5 : Hid (Fr w4 W5 (fun k => k = g)) := by rw [← hW5]; exact Fr.setCell _ _ _ rfl
  have HR5 : Hid (W5.heap[gr]? = some (.cells #[.string ⟨#[]⟩, .slice none 0 0, .slice none 0 0, .int .i64 0, .int .i64 0, .int .i64 0] 27 (0, 0))) := (HF5.out.block gr (by have := ma_lt HR3.out; have := HB4.out.size; omega) (fun e => by have := HLt.out; omega)).trans ((HB4.out.block gr (ma_lt HR3.out)).trans HR3.out)
  clear hW5
  go_wp2_with (first
    | (refine wpList_load_row rfl 27 _ rfl g rfl 27 #[.string t, .slice bo G.length c, .slice ap ps.length cp, .int .i64 st, .int .i64 se, .int .i64 pa] (0, 0) _ HK5.out Tryz.underlying27 rfl size_jobJ ?_)
    | (refine wpList_store_row rfl 27 _ _ rfl gr #[.string t, .slice bo G.length c, .slice ap ps.length cp, .int .i64 st, .int .i64 se, .int .i64 pa] rfl rfl 27 #[.string ⟨#[]⟩, .slice none 0 0, .slice none 0 0, .int .i64 0, .int .i64 0, .int .i64 0] HR5.out size_jobJ rfl (by simp [Value.oneCell']) ?_))
  refine bodyPost_ret (v := .agg #[.string t, .slice bo G.length c, .slice ap ps.length cp, .int .i64 st, .int .i64 se, .int .i64 pa]) (results_cell_row Tryz.results82 _ _ gr 27 _ (0, 0) _ rfl (setRow_heap _ _ _ _ _ _ HR5.out) Tryz.underlying27 rfl size_jobJ) rfl ?_
  have hf6 := ap_setRow W5 gr #[.string t, .slice bo G.length c, .slice ap ps.length cp, .int .i64 st, .int .i64 se, .int .i64 pa]
  have hs3 : W1.heap.size ≤ W3.heap.size := Nat.le_trans HB2.out.size HF3.out.size
  have hs5 : W3.heap.size ≤ W5.heap.size := Nat.le_trans HB4.out.size HF5.out.size
  refine ⟨bo, c, _, rfl, ?_, ?_, ?_⟩
  · have v4 := HV3.out.new HB4.out
    have v5 := v4.kept (Q := fun k => W1.heap.size ≤ k) HF5.out (fun k _ hp => ⟨fun e => by have := HLt.out; omega, hp⟩)
    exact v5.kept hf6 (fun k _ hp => ⟨fun e => by have := HLt.out; omega, by have := HB.out.size; omega⟩)
  · have o5 := HO4.out.kept HF5.out (fun k hk e => by have := (GO.lt HO4.out k hk).1; have := ma_lt HK3.out; omega)
    have o6 := o5.kept hf6 (fun k hk e => by have := (GO.lt HO4.out k hk).1; have := ma_lt HR3.out; omega)
    exact o6.lower HB3.out.size
  · exact ((HB3.out.trans (HB4.out.mono HB3.out.size)).trans (HF5.out.below (Nat.le_trans HB3.out.size HB4.out.size) (fun k hk => by have := HG.out; omega))).trans (hf6.below (Nat.le_trans HB3.out.size hs5) (fun k hk => by have := HG.out; have := HLt.out; omega))
end Go.Proofs.YthkfbaoeimjgaaaGreat
end

section
/- A nil master: what it answers. -/
namespace Go.Proofs.YthkfbaoeimjgaaaGreat
open Go.RowKit
attribute [local go_sem] Oper.semAt_some
theorem nthree_new (w : World) (a b c : Obj) : (((w.alloc a).alloc b).alloc c).heap[w.heap.size + 1 + 1]? = some c := by
  have := heap_alloc_new ((w.alloc a).alloc b) c
  rw [World.size_alloc, World.size_alloc] at this
  exact this
theorem nepoch (w : World) : Calls Tryz.prog 32 #[.pointer none] w fun r w' => r = .returned (.int .i64 0) ∧ Below w.heap.size w w' := by
  go_enter Tryz.func32, Tryz.ntmps32
  go_wp2
  go_ret
  exact ⟨rfl, Below.refl _ _⟩
theorem nopen (w : World) : Calls Tryz.prog 31 #[.pointer none] w fun r w' => r = .returned (.int .i64 0) ∧ Below w.heap.size w w' := by
  go_enter Tryz.func31, Tryz.ntmps31
  go_wp2
  go_ret
  exact ⟨rfl, Below.refl _ _⟩
theorem nworkers (w : World) : Calls Tryz.prog 30 #[.pointer none] w fun r w' => r = .returned (.slice none 0 0) ∧ Below w.heap.size w w' := by
  go_enter Tryz.func30, Tryz.ntmps30
  go_wp2
  go_ret
  exact ⟨rfl, Below.refl _ _⟩
theorem njobs (w : World) : Calls Tryz.prog 29 #[.pointer none] w fun r w' => r = .returned (.slice none 0 0) ∧ Below w.heap.size w w' := by
  go_enter Tryz.func29, Tryz.ntmps29
  go_wp2
  go_ret
  exact ⟨rfl, Below.refl _ _⟩
theorem nencode (w : World) : Calls Tryz.prog 33 #[.pointer none] w fun r w' => r = .returned (.string ⟨#[]⟩) ∧ Below w.heap.size w w' := by
  go_enter Tryz.func33, Tryz.ntmps33
  go_wp2
  go_ret
  exact ⟨rfl, Below.refl _ _⟩
theorem nlife (x : Int) (w : World) : Calls Tryz.prog 26 #[.pointer none, .int .i64 x] w fun r w' => r = .returned (.tuple #[.int .i64 0, .bool false]) ∧ Below w.heap.size w w' := by
  go_enter Tryz.func26, Tryz.ntmps26
  go_wp2
  go_ret2
  exact ⟨rfl, Below.refl _ _⟩
set_option maxRecDepth 100000 in
theorem nwants (r0 r1 r2 r3 r4 r5 r6 r7 r8 r9 r10 r11 r12 r13 r14 r15 r16 r17 r18 r19 : Value) (w : World) : Calls Tryz.prog 28 #[.pointer none, .agg #[r0, r1, r2, r3, r4, r5, r6, r7, r8, r9, r10, r11, r12, r13, r14, r15, r16, r17, r18, r19]] w fun r w' => r = .returned (.bool false) ∧ Below w.heap.size w w' := by
  go_enter Tryz.func28, Tryz.ntmps28
  go_upto_region 1 with (fail)
  go_region
  go_wp2
  go_ret
  exact ⟨rfl, Below.drew (ma_new _ _)⟩
set_option maxRecDepth 100000 in
theorem napply (c : Array Value) (w : World) : Calls Tryz.prog 21 #[.pointer none, .agg c] w fun r w' => r = .returned (.tuple #[.agg #[.int .i64 0, .int .i64 0], .int .i64 1]) ∧ Below w.heap.size w w' := by
  go_enter Tryz.func21, Tryz.ntmps21
  go_wp2
  refine bodyPost_ret (v := .tuple #[.agg #[.int .i64 0, .int .i64 0], .int .i64 1]) (res_ctJ Tryz.results21 _ _ (w.heap.size + 1 + 1) 62 _ (0, 0) _ rfl (nthree_new _ _ _ _) Tryz.underlying62 rfl size_reply) rfl ?_
  exact ⟨rfl, (((Below.refl _ _).alloc (Nat.le_refl _) _).alloc (by simp) _).alloc (by simp; omega) _⟩
theorem res_ctt {fn : Func} {p u x : Tmp} {ty : TypeId} (h : fn.results = #[.cell p ty, .tmp u, .tmp x]) (tmps : Array Value) (w : World) (g : Nat) (t : TypeId) (cs : Array Value) (fr : Nat × Nat) (d : TypeDesc)
    (hp : tmps.getD p undef = .pointer (some ⟨g, 0, none⟩)) (hg : w.heap[g]? = some (.cells cs t fr))
    (hu : Tryz.prog.underlying ty = some d) (hd : (match d with | .struct _ | .array _ _ => true | _ => false) = true) (hi : (Tryz.prog.info? ty).map (·.size) = some cs.size) :
    (results fn tmps).run Tryz.prog w = .ok (.tuple #[.agg cs, tmps.getD u undef, tmps.getD x undef]) w := by
  have := run_loadVar_row (P := Tryz.prog) w g t ty cs fr d hg hu (by cases d <;> first | rfl | exact hd) hi
  have hp2 : tmps[p]?.getD undef = .pointer (some ⟨g, 0, none⟩) := by rw [← hp]; simp
  simp only [results, h]
  simp [Result.andThen, hp2, asAddr, this]
theorem size_statusN : (Tryz.prog.info? 75).map (·.size) = some 8 := by kernel_rfl
theorem size_taskN : (Tryz.prog.info? 69).map (·.size) = some 26 := by kernel_rfl
theorem size_jobN : (Tryz.prog.info? 27).map (·.size) = some 6 := by kernel_rfl
set_option maxRecDepth 100000 in
theorem nlook (k n : Int) (w : World) : Calls Tryz.prog 22 #[.pointer none, .int .i64 k, .int .i64 n] w fun r w' => r = .returned (.tuple #[.agg #[.int .i64 0, .int .i64 0], .bool false, .int .i64 1]) ∧ Below w.heap.size w w' := by
  go_enter Tryz.func22, Tryz.ntmps22
  go_wp2
  refine bodyPost_ret (v := .tuple #[.agg #[.int .i64 0, .int .i64 0], .bool false, .int .i64 1]) (res_ctt Tryz.results22 _ _ w.heap.size 62 _ (0, 0) _ rfl (heap_alloc_new _ _) Tryz.underlying62 rfl size_reply) rfl ?_
  exact ⟨rfl, ma_new _ _⟩
set_option maxRecDepth 100000 in
theorem ntask (x : Int) (w : World) : Calls Tryz.prog 23 #[.pointer none, .int .i64 x] w fun r w' => r = .returned (.tuple #[.agg #[.int .i64 0, .int .i64 0, .int .i64 0, .int .i64 0, .slice none 0 0, .slice none 0 0, .string ⟨#[]⟩, .slice none 0 0, .slice none 0 0, .int .i64 0, .int .i64 0, .int .i64 0, .bool false, .bool false, .bool false, .bool false, .bool false, .int .i64 0, .int .i64 0, .int .i64 0, .int .i64 0, .int .i64 0, .int .i64 0, .int .i64 0, .int .i64 0, .bool false], .bool false]) ∧ Below w.heap.size w w' := by
  obtain ⟨V, hV⟩ : ∃ V, w.alloc (.cells #[.int .i64 0, .int .i64 0, .int .i64 0, .int .i64 0, .slice none 0 0, .slice none 0 0, .string ⟨#[]⟩, .slice none 0 0, .slice none 0 0, .int .i64 0, .int .i64 0, .int .i64 0, .bool false, .bool false, .bool false, .bool false, .bool false, .int .i64 0, .int .i64 0, .int .i64 0, .int .i64 0, .int .i64 0, .int .i64 0, .int .i64 0, .int .i64 0, .bool false] 69) = V := ⟨_, rfl⟩
  have hk : V.heap[w.heap.size]? = some (.cells #[.int .i64 0, .int .i64 0, .int .i64 0, .int .i64 0, .slice none 0 0, .slice none 0 0, .string ⟨#[]⟩, .slice none 0 0, .slice none 0 0, .int .i64 0, .int .i64 0, .int .i64 0, .bool false, .bool false, .bool false, .bool false, .bool false, .int .i64 0, .int .i64 0, .int .i64 0, .int .i64 0, .int .i64 0, .int .i64 0, .int .i64 0, .int .i64 0, .bool false] 69 (0, 0)) := by rw [← hV]; exact heap_alloc_new _ _
  have hb : Below w.heap.size w V := by rw [← hV]; exact ma_new _ _
  have HK : Hid _ := hk
  have HB : Hid _ := hb
  clear hk hb
  go_enter Tryz.func23, Tryz.ntmps23
  go_upto_region 1 with (fail)
  clear hV
  go_wp2_with (refine wpList_store_row rfl 69 _ _ rfl w.heap.size #[.int .i64 0, .int .i64 0, .int .i64 0, .int .i64 0, .slice none 0 0, .slice none 0 0, .string ⟨#[]⟩, .slice none 0 0, .slice none 0 0, .int .i64 0, .int .i64 0, .int .i64 0, .bool false, .bool false, .bool false, .bool false, .bool false, .int .i64 0, .int .i64 0, .int .i64 0, .int .i64 0, .int .i64 0, .int .i64 0, .int .i64 0, .int .i64 0, .bool false] rfl rfl 69 #[.int .i64 0, .int .i64 0, .int .i64 0, .int .i64 0, .slice none 0 0, .slice none 0 0, .string ⟨#[]⟩, .slice none 0 0, .slice none 0 0, .int .i64 0, .int .i64 0, .int .i64 0, .bool false, .bool false, .bool false, .bool false, .bool false, .int .i64 0, .int .i64 0, .int .i64 0, .int .i64 0, .int .i64 0, .int .i64 0, .int .i64 0, .int .i64 0, .bool false] HK.out size_taskN rfl (by simp [Value.oneCell']) ?_)
  have hf := ap_setRow V w.heap.size #[.int .i64 0, .int .i64 0, .int .i64 0, .int .i64 0, .slice none 0 0, .slice none 0 0, .string ⟨#[]⟩, .slice none 0 0, .slice none 0 0, .int .i64 0, .int .i64 0, .int .i64 0, .bool false, .bool false, .bool false, .bool false, .bool false, .int .i64 0, .int .i64 0, .int .i64 0, .int .i64 0, .int .i64 0, .int .i64 0, .int .i64 0, .int .i64 0, .bool false]
  refine bodyPost_ret (v := .tuple #[.agg #[.int .i64 0, .int .i64 0, .int .i64 0, .int .i64 0, .slice none 0 0, .slice none 0 0, .string ⟨#[]⟩, .slice none 0 0, .slice none 0 0, .int .i64 0, .int .i64 0, .int .i64 0, .bool false, .bool false, .bool false, .bool false, .bool false, .int .i64 0, .int .i64 0, .int .i64 0, .int .i64 0, .int .i64 0, .int .i64 0, .int .i64 0, .int .i64 0, .bool false], .bool false]) (res_ctJ Tryz.results23 _ _ w.heap.size 69 _ (0, 0) _ rfl (setRow_heap _ _ _ _ _ _ HK.out) Tryz.underlying69 rfl size_taskN) rfl ?_
  exact ⟨rfl, HB.out.trans (hf.below HB.out.size (fun k hk => by omega))⟩
set_option maxRecDepth 100000 in
theorem nstatus (x : Int) (w : World) : Calls Tryz.prog 24 #[.pointer none, .int .i64 x] w fun r w' => r = .returned (.tuple #[.agg #[.int .i64 0, .int .i64 0, .int .i64 0, .int .i64 0, .int .i64 0, .int .i64 0, .int .i64 0, .slice none 0 0], .int .i64 1]) ∧ Below w.heap.size w w' := by
  obtain ⟨V, hV⟩ : ∃ V, w.alloc (.cells #[.int .i64 0, .int .i64 0, .int .i64 0, .int .i64 0, .int .i64 0, .int .i64 0, .int .i64 0, .slice none 0 0] 75) = V := ⟨_, rfl⟩
  have hk : V.heap[w.heap.size]? = some (.cells #[.int .i64 0, .int .i64 0, .int .i64 0, .int .i64 0, .int .i64 0, .int .i64 0, .int .i64 0, .slice none 0 0] 75 (0, 0)) := by rw [← hV]; exact heap_alloc_new _ _
  have hb : Below w.heap.size w V := by rw [← hV]; exact ma_new _ _
  have HK : Hid _ := hk
  have HB : Hid _ := hb
  clear hk hb
  go_enter Tryz.func24, Tryz.ntmps24
  go_upto_region 1 with (fail)
  clear hV
  go_wp2_with (refine wpList_store_row rfl 75 _ _ rfl w.heap.size #[.int .i64 0, .int .i64 0, .int .i64 0, .int .i64 0, .int .i64 0, .int .i64 0, .int .i64 0, .slice none 0 0] rfl rfl 75 #[.int .i64 0, .int .i64 0, .int .i64 0, .int .i64 0, .int .i64 0, .int .i64 0, .int .i64 0, .slice none 0 0] HK.out size_statusN rfl (by simp [Value.oneCell']) ?_)
  have hf := ap_setRow V w.heap.size #[.int .i64 0, .int .i64 0, .int .i64 0, .int .i64 0, .int .i64 0, .int .i64 0, .int .i64 0, .slice none 0 0]
  refine bodyPost_ret (v := .tuple #[.agg #[.int .i64 0, .int .i64 0, .int .i64 0, .int .i64 0, .int .i64 0, .int .i64 0, .int .i64 0, .slice none 0 0], .int .i64 1]) (res_ctJ Tryz.results24 _ _ w.heap.size 75 _ (0, 0) _ rfl (setRow_heap _ _ _ _ _ _ HK.out) Tryz.underlying75 rfl size_statusN) rfl ?_
  exact ⟨rfl, HB.out.trans (hf.below HB.out.size (fun k hk => by omega))⟩
set_option maxRecDepth 100000 in
theorem nspec (x : Int) (w : World) : Calls Tryz.prog 25 #[.pointer none, .int .i64 x] w fun r w' => r = .returned (.tuple #[.agg #[.string ⟨#[]⟩, .slice none 0 0, .slice none 0 0, .int .i64 0, .int .i64 0, .int .i64 0], .bool false]) ∧ Below w.heap.size w w' := by
  obtain ⟨V, hV⟩ : ∃ V, w.alloc (.cells #[.string ⟨#[]⟩, .slice none 0 0, .slice none 0 0, .int .i64 0, .int .i64 0, .int .i64 0] 27) = V := ⟨_, rfl⟩
  have hk : V.heap[w.heap.size]? = some (.cells #[.string ⟨#[]⟩, .slice none 0 0, .slice none 0 0, .int .i64 0, .int .i64 0, .int .i64 0] 27 (0, 0)) := by rw [← hV]; exact heap_alloc_new _ _
  have hb : Below w.heap.size w V := by rw [← hV]; exact ma_new _ _
  have HK : Hid _ := hk
  have HB : Hid _ := hb
  clear hk hb
  go_enter Tryz.func25, Tryz.ntmps25
  go_upto_region 1 with (fail)
  clear hV
  go_wp2_with (refine wpList_store_row rfl 27 _ _ rfl w.heap.size #[.string ⟨#[]⟩, .slice none 0 0, .slice none 0 0, .int .i64 0, .int .i64 0, .int .i64 0] rfl rfl 27 #[.string ⟨#[]⟩, .slice none 0 0, .slice none 0 0, .int .i64 0, .int .i64 0, .int .i64 0] HK.out size_jobN rfl (by simp [Value.oneCell']) ?_)
  have hf := ap_setRow V w.heap.size #[.string ⟨#[]⟩, .slice none 0 0, .slice none 0 0, .int .i64 0, .int .i64 0, .int .i64 0]
  refine bodyPost_ret (v := .tuple #[.agg #[.string ⟨#[]⟩, .slice none 0 0, .slice none 0 0, .int .i64 0, .int .i64 0, .int .i64 0], .bool false]) (res_ctJ Tryz.results25 _ _ w.heap.size 27 _ (0, 0) _ rfl (setRow_heap _ _ _ _ _ _ HK.out) Tryz.underlying27 rfl size_jobN) rfl ?_
  exact ⟨rfl, HB.out.trans (hf.below HB.out.size (fun k hk => by omega))⟩
theorem knows_none {w : World} {p : Nat} {ax cr : Value} {mb : Option Nat} {ep : Int} {M : List Pz} (h : MaBox w p ax mb (.slice none 0 0) ep cr M) (x : Int) : Calls Tryz.prog 83 #[.pointer (some ⟨p, 0, none⟩), .int .i64 x] w fun r w' => r = .returned (.bool false) ∧ w' = w := by
  obtain ⟨-, -, c2, -, -⟩ := h.c
  clear h
  by_cases h1 : 1 ≤ x
  · have h2 : ¬ x ≤ 0 := by omega
    go_enter Tryz.func83, Tryz.ntmps83
    go_wp2
    go_ret
    exact ⟨rfl, rfl⟩
  · go_enter Tryz.func83, Tryz.ntmps83
    go_wp2
    go_ret
    exact ⟨rfl, rfl⟩
set_option maxRecDepth 100000 in
/-- No job is there: a status is none. -/
theorem mstatus_none {w : World} {p : Nat} {ax cr : Value} {mb : Option Nat} {ep : Int} {M : List Pz} (h : MaBox w p ax mb (.slice none 0 0) ep cr M) (x : Int) : Calls Tryz.prog 24 #[.pointer (some ⟨p, 0, none⟩), .int .i64 x] w fun r w' => r = .returned (.tuple #[.agg #[.int .i64 0, .int .i64 0, .int .i64 0, .int .i64 0, .int .i64 0, .int .i64 0, .int .i64 0, .slice none 0 0], .int .i64 170]) ∧ Below w.heap.size w w' := by
  obtain ⟨V, hV⟩ : ∃ V, w.alloc (.cells #[.int .i64 0, .int .i64 0, .int .i64 0, .int .i64 0, .int .i64 0, .int .i64 0, .int .i64 0, .slice none 0 0] 75) = V := ⟨_, rfl⟩
  have hk : V.heap[w.heap.size]? = some (.cells #[.int .i64 0, .int .i64 0, .int .i64 0, .int .i64 0, .int .i64 0, .int .i64 0, .int .i64 0, .slice none 0 0] 75 (0, 0)) := by rw [← hV]; exact heap_alloc_new _ _
  have hb : Below w.heap.size w V := by rw [← hV]; exact ma_new _ _
  have HK : Hid _ := hk
  have HB : Hid _ := hb
  have hKn := knows_none (h.new hb) x
  clear hk hb h
  go_enter Tryz.func24, Tryz.ntmps24
  go_upto_region 1 with (fail)
  clear hV
  go_wp2_with (first
    | (go_at_call 83; refine hKn.mono ?_; rintro r w1 ⟨rfl, h1⟩; rw [h1]; clear h1)
    | (refine wpList_store_row rfl 75 _ _ rfl w.heap.size #[.int .i64 0, .int .i64 0, .int .i64 0, .int .i64 0, .int .i64 0, .int .i64 0, .int .i64 0, .slice none 0 0] rfl rfl 75 #[.int .i64 0, .int .i64 0, .int .i64 0, .int .i64 0, .int .i64 0, .int .i64 0, .int .i64 0, .slice none 0 0] HK.out size_statusN rfl (by simp [Value.oneCell']) ?_))
  have hf := ap_setRow V w.heap.size #[.int .i64 0, .int .i64 0, .int .i64 0, .int .i64 0, .int .i64 0, .int .i64 0, .int .i64 0, .slice none 0 0]
  refine bodyPost_ret (v := .tuple #[.agg #[.int .i64 0, .int .i64 0, .int .i64 0, .int .i64 0, .int .i64 0, .int .i64 0, .int .i64 0, .slice none 0 0], .int .i64 170]) (res_ctJ Tryz.results24 _ _ w.heap.size 75 _ (0, 0) _ rfl (setRow_heap _ _ _ _ _ _ HK.out) Tryz.underlying75 rfl size_statusN) rfl ?_
  exact ⟨rfl, HB.out.trans (hf.below HB.out.size (fun k hk => by omega))⟩
end Go.Proofs.YthkfbaoeimjgaaaGreat
end

section
/- The errors of a job's bytes are small numbers. -/
namespace Go.Proofs.YthkfbaoeimjgaaaGreat
open Go.RowKit
def ErrS (e : Int) : Prop := 0 ≤ e ∧ e ≤ 1000
theorem pgo_err : ∀ (f i acc : Nat) (l : List UInt8), (pgo f i acc l).2.2 ≤ 6
  | 0, _, _, l => by cases l <;> simp [pgo]
  | f + 1, i, acc, [] => by simp [pgo]
  | f + 1, i, acc, b :: l => by
    have ih := pgo_err f (i + 1) (acc + b.toNat % 128 * 128 ^ i) l
    rw [pgo]
    split
    · exact ih
    · split <;> simp
theorem rdWith_err {α : Type} {z : α} {s : ByteArray} {a : Nat} {e : Int} {f : Nat → Nat → α × Nat × Int} (he : ErrS e) (hf : ∀ n k, ErrS (f n k).2.2) : ErrS (rdWith z s a e f).2.2 := by
  by_cases h : e = 0
  · subst h
    rcases hp : pnum (s.data.toList.drop a) with ⟨n, k, x⟩
    by_cases hx : x = 0
    · subst hx; rw [rd_ok hp]; exact hf n k
    · rw [rd_bad hp hx]
      have := pgo_err 10 0 0 (s.data.toList.drop a)
      unfold pnum at hp
      rw [hp] at this
      unfold ErrS
      simp only at this ⊢
      omega
  · rw [rd_err h]; exact he
theorem err0 : ErrS 0 := by unfold ErrS; omega
theorem rdNum_err {s : ByteArray} {a : Nat} {e : Int} (he : ErrS e) : ErrS (rdNum s a e).2.2 := rdWith_err he (fun _ _ => err0)
theorem rdCount_err {s : ByteArray} {a : Nat} {e most : Int} (he : ErrS e) : ErrS (rdCount s a e most).2.2 := rdWith_err he (fun n k => by split <;> simp [ErrS])
theorem rdText_err {s : ByteArray} {a : Nat} {e : Int} (he : ErrS e) : ErrS (rdText s a e).2.2 := rdWith_err he (fun n k => by split <;> simp [ErrS])
theorem rdEs_err {s : ByteArray} : ∀ (n a : Nat) (e : Int), ErrS e → ErrS (rdEs s n a e).2.2
  | 0, _, _, h => h
  | n + 1, a, e, h => by
    rw [rdEs]
    split
    · exact rdEs_err n _ 0 err0
    · exact rdNum_err (rdNum_err h)
theorem rdV_err {s : ByteArray} {a : Nat} {e : Int} (h : ErrS e) : ErrS (rdV s a e).2.2 := rdEs_err _ _ _ (rdCount_err (rdNum_err (rdNum_err h)))
theorem rdVs_err {s : ByteArray} : ∀ (n a : Nat) (e : Int), ErrS e → ErrS (rdVs s n a e).2.2
  | 0, _, _, h => h
  | n + 1, a, e, h => by
    rw [rdVs]
    split
    · exact rdVs_err n _ 0 err0
    · exact rdV_err h
theorem chk_err (G : List Vx) : ErrS (chk G) := by unfold chk ErrS; split <;> (try split) <;> omega
theorem rdG_err {s : ByteArray} {a : Nat} {e : Int} (h : ErrS e) : ErrS (rdG s a e).2.2 := by
  have hg : ErrS (rdGs s a e).2.2 := rdVs_err _ _ _ (rdCount_err h)
  unfold rdG
  simp only
  split
  · split
    · exact hg
    · exact chk_err _
  · exact hg
theorem rdPs_err {s : ByteArray} : ∀ (n a : Nat) (e : Int) (L : List Int), ErrS e → ErrS (rdPs s n a e L).2.2
  | 0, _, _, _, h => h
  | n + 1, _, _, _, h => rdPs_err n _ _ _ (rdNum_err h)
theorem mcheck_err (s : ByteArray) (G : List Vx) (L : List Int) : ErrS (mcheckN s G L) := by
  have h1 : ErrS (turnN L) := by unfold turnN ErrS; split <;> omega
  have h2 : ErrS (coreN L) := by unfold coreN ErrS; split <;> omega
  have h3 : ErrS (noneN L) := by unfold noneN ErrS; split <;> omega
  have h4 : ErrS (srcN G L) := by unfold srcN ErrS; (repeat' split) <;> omega
  unfold mcheckN checkN
  repeat' split
  all_goals first | exact h1 | exact h2 | exact h3 | exact h4 | (unfold ErrS; omega)
theorem jobN_err (s : ByteArray) (G : List Vx) (ps : List Int) (st se pa : Int) : ErrS (jobN s G ps st se pa) := by
  have h1 := chk_err G
  have h2 := mcheck_err s G ps
  unfold jobN
  repeat' split
  all_goals first | exact h1 | exact h2 | (unfold ErrS; omega)
theorem jr_err {s t : ByteArray} {G : List Vx} {n : Nat} {ps : List Int} {st se pa a1 a2 a3 a4 a5 a6 a7 : Nat} {e1 e2 e3 e4 e5 e6 e7 : Int} (h : JR s 0 0 t G n ps st se pa a1 a2 a3 a4 a5 a6 a7 e1 e2 e3 e4 e5 e6 e7) : ErrS (rdEnd s a7 (jErr e7 t G ps st se pa)) := by
  have h1 : ErrS e1 := by have := rdText_err (s := s) (a := 0) err0; rw [h.h1] at this; exact this
  have h2 : ErrS e2 := by have := rdG_err (s := s) (a := a1) h1; rw [h.h2] at this; exact this
  have h3 : ErrS e3 := by have := rdCount_err (s := s) (a := a2) (most := 4) h2; rw [h.h3] at this; exact this
  have h4 : ErrS e4 := by have := rdPs_err (s := s) n a3 e3 [] h3; rw [h.h4] at this; exact this
  have h5 : ErrS e5 := by have := rdCount_err (s := s) (a := a4) (most := 1000) h4; rw [h.h5] at this; exact this
  have h6 : ErrS e6 := by have := rdCount_err (s := s) (a := a5) (most := 65536) h5; rw [h.h6] at this; exact this
  have h7 : ErrS e7 := by have := rdCount_err (s := s) (a := a6) (most := 16) h6; rw [h.h7] at this; exact this
  have h8 : ErrS (jErr e7 t G ps st se pa) := by
    unfold jErr rdFail
    split
    · exact jobN_err _ _ _ _ _ _
    · exact h7
  unfold rdEnd
  split
  · unfold ErrS; omega
  · exact h8
end Go.Proofs.YthkfbaoeimjgaaaGreat
end

section
/- submit at a master that has no job yet, and no worker: the job waits; bytes that are none are refused. -/
namespace Go.Proofs.YthkfbaoeimjgaaaGreat
open Go.RowKit Go.Maps
attribute [local go_sem] Oper.semAt_some
/-- Where no worker is there, nothing goes on. -/
theorem mgoon_empty {w : World} {p : Nat} {ax js cr : Value} {ep : Int} (h : MaBox w p ax none js ep cr []) : Calls Tryz.prog 129 #[.pointer (some ⟨p, 0, none⟩)] w fun r w' => r = .returned (.tuple #[]) ∧ w' = w := by
  obtain ⟨-, c1, -, -, -⟩ := h.c
  have hl := wlen h.wk 3
  clear h
  go_enter Tryz.func129, Tryz.ntmps129
  go_wp2
  refine bodyPost_ret (results_none rfl _ _ _) rfl ?_
  exact ⟨rfl, rfl⟩
/-- A job that waits. -/
def WaitAt (w0 w : World) (p : Nat) (ax : Value) (t : ByteArray) (G : List Vx) (ps : List Int) (st se pa : Int) : Prop := ∃ jb jc go gc po pc, MaBox w p ax none (.slice (some ⟨jb, 0, none⟩) 1 jc) 0 (.pointer none) [] ∧ JbAt w jb [.string t, .slice go G.length gc, .slice po ps.length pc, .int .i64 st, .int .i64 se, .int .i64 pa] 1 ∧ VxAt w (fun k => w0.heap.size ≤ k) go G ∧ IsP w (fun k => w0.heap.size ≤ k) po ps ∧ w0.heap.size ≤ jb
set_option linter.unusedSimpArgs false in
set_option maxRecDepth 100000 in
set_option maxHeartbeats 4000000 in
theorem msubmit_n {w : World} {p : Nat} {ax : Value} {s t : ByteArray} {G : List Vx} {ps : List Int} {st se pa : Int} (h : MaBox w p ax none (.slice none 0 0) 0 (.pointer none) [])
    (hD : ∀ W : World, Calls Tryz.prog 12 #[.string s] W fun r w' => (∃ go gc po pc, r = .returned (.tuple #[.agg #[.string t, .slice go G.length gc, .slice po ps.length pc, .int .i64 st, .int .i64 se, .int .i64 pa], .int .i64 0]) ∧ VxAt w' (fun k => W.heap.size ≤ k) go G ∧ IsP w' (fun k => W.heap.size ≤ k) po ps) ∧ Below W.heap.size W w') :
    Calls Tryz.prog 70 #[.pointer (some ⟨p, 0, none⟩), .string s] w fun r w' => r = .returned (.agg #[.int .i64 0, .int .i64 1]) ∧ WaitAt w w' p ax t G ps st se pa ∧ Fr w w' (fun k => k = p) := by
  obtain ⟨ij, hij, z0, z1, z2⟩ := info_parts infoMj
  have HA : Hid (MaBox w p ax none (.slice none 0 0) 0 (.pointer none) []) := h
  have HD : Hid _ := hD
  have HPs : Hid (p < w.heap.size) := h.lt
  have HW0s : Hid (∀ W0 : World, w.alloc (.cells #[.int .i64 0, .int .i64 0] 62) = W0 → W0.heap.size = w.heap.size + 1) := fun W0 e => by rw [← e]; simp
  obtain ⟨gl, hgl⟩ : ∃ gl, G.length = gl := ⟨_, rfl⟩
  obtain ⟨pl, hpl⟩ : ∃ pl, ps.length = pl := ⟨_, rfl⟩
  obtain ⟨W0, hW0⟩ : ∃ W0, w.alloc (.cells #[.int .i64 0, .int .i64 0] 62) = W0 := ⟨_, rfl⟩
  have b0 : Below w.heap.size w W0 := by rw [← hW0]; exact ma_new _ _
  have k0 := heap_alloc_new w (.cells #[.int .i64 0, .int .i64 0] 62)
  rw [hW0] at k0
  obtain ⟨gr, hgr⟩ : ∃ gr, w.heap.size = gr := ⟨_, rfl⟩
  have HGr : Hid (w.heap.size = gr) := hgr
  rw [hgr] at k0
  have HZ0 : Hid (W0.heap.size = gr + 1) := by show _ = _; rw [← hgr]; exact HW0s.out W0 hW0
  have HK0 : Hid (W0.heap[gr]? = some (.cells #[.int .i64 0, .int .i64 0] 62 (0, 0))) := k0
  have HB0 : Hid (Below w.heap.size w W0) := b0
  clear h hD b0 k0
  rw [hgl, hpl] at HD
  go_enter Tryz.func70, Tryz.ntmps70
  go_upto_region 2 with (go_at_call 12; refine (HD.out _).mono ?_; rintro r w2 ⟨⟨go, gc, po, pc, rfl, hv2, hp2⟩, hb2⟩)
  have HV2 : Hid (VxAt w2 (fun k => W0.heap.size ≤ k) go G) := hv2
  have HP2 : Hid (IsP w2 (fun k => W0.heap.size ≤ k) po ps) := hp2
  have HB2 : Hid (Below W0.heap.size W0 w2) := hb2
  clear hv2 hp2 hb2 hW0
  generalize hW5 : World.alloc w2 _ = W5
  obtain ⟨bk, hbk⟩ : ∃ bk, w2.heap.size = bk := ⟨_, rfl⟩
  have hbx := heap_alloc_new w2 (.cells #[.string t, .slice go gl gc, .slice po pl pc, .int .i64 st, .int .i64 se, .int .i64 pa] 27)
  have HB5 : Hid (Below w2.heap.size w2 W5) := by rw [← hW5]; exact ma_new _ _
  rw [hW5, hbk] at hbx
  rw [hbk]
  have d0 : W5.cell? ⟨bk, 0, none⟩ = some (.string t) := by simp [World.cell?, hbx]
  have d1 : W5.cell? ⟨bk, 1, none⟩ = some (.slice go gl gc) := by simp [World.cell?, hbx]
  have d2 : W5.cell? ⟨bk, 2, none⟩ = some (.slice po pl pc) := by simp [World.cell?, hbx]
  have d3 : W5.cell? ⟨bk, 3, none⟩ = some (.int .i64 st) := by simp [World.cell?, hbx]
  have d4 : W5.cell? ⟨bk, 4, none⟩ = some (.int .i64 se) := by simp [World.cell?, hbx]
  have d5 : W5.cell? ⟨bk, 5, none⟩ = some (.int .i64 pa) := by simp [World.cell?, hbx]
  have HB05 : Hid (Below W0.heap.size W0 W5) := HB2.out.trans (HB5.out.mono HB2.out.size)
  have HBw : Hid (Below w.heap.size w W5) := HB0.out.trans (HB05.out.mono HB0.out.size)
  have HA5 : Hid (MaBox W5 p ax none (.slice none 0 0) 0 (.pointer none) []) := HA.out.new HBw.out
  have HK5 : Hid (W5.heap[gr]? = some (.cells #[.int .i64 0, .int .i64 0] 62 (0, 0))) := (HB05.out.block gr (ma_lt HK0.out)).trans HK0.out
  have HV5 : Hid (VxAt W5 (fun k => W0.heap.size ≤ k) go G) := HV2.out.new HB5.out
  have HP5 : Hid (IsP W5 (fun k => W0.heap.size ≤ k) po ps) := HP2.out.new HB5.out
  clear hW5 hbk hbx
  have c2 := HA5.out.c.2.2.1
  go_upto_region 6 with (go_at_call 31; refine (mopen_none HA5.out).mono ?_; rintro r w6 ⟨rfl, e6⟩; obtain rfl : W5 = w6 := e6.symm)
  obtain ⟨Wd, hWd⟩ : ∃ Wd, World.drew W5 = Wd := ⟨_, rfl⟩
  have bd : Below W5.heap.size W5 Wd := by rw [← hWd]; exact ((Below.refl _ W5).drew)
  have hS0 : (fun w' : World => w'.cell? ⟨p, 2, none⟩ = some (.slice none 0 0) ∧ w'.cell? ⟨bk, 0, none⟩ = some (.string t) ∧ w'.cell? ⟨bk, 1, none⟩ = some (.slice go gl gc) ∧ w'.cell? ⟨bk, 2, none⟩ = some (.slice po pl pc) ∧ w'.cell? ⟨bk, 3, none⟩ = some (.int .i64 st) ∧ w'.cell? ⟨bk, 4, none⟩ = some (.int .i64 se) ∧ w'.cell? ⟨bk, 5, none⟩ = some (.int .i64 pa)) Wd := ⟨(bd.cell (ma_ltc c2)).trans c2, (bd.cell (ma_ltc d0)).trans d0, (bd.cell (ma_ltc d1)).trans d1, (bd.cell (ma_ltc d2)).trans d2, (bd.cell (ma_ltc d3)).trans d3, (bd.cell (ma_ltc d4)).trans d4, (bd.cell (ma_ltc d5)).trans d5⟩
  refine ma_calm ?_
  refine wp_region_L [11] (fun w' : World => w'.cell? ⟨p, 2, none⟩ = some (.slice none 0 0) ∧ w'.cell? ⟨bk, 0, none⟩ = some (.string t) ∧ w'.cell? ⟨bk, 1, none⟩ = some (.slice go gl gc) ∧ w'.cell? ⟨bk, 2, none⟩ = some (.slice po pl pc) ∧ w'.cell? ⟨bk, 3, none⟩ = some (.int .i64 st) ∧ w'.cell? ⟨bk, 4, none⟩ = some (.int .i64 se) ∧ w'.cell? ⟨bk, 5, none⟩ = some (.int .i64 pa)) (by kernel_rfl) ?_
  rw [hWd]
  clear hWd
  refine wpAnyL_take (i := 0) 29 (v := .pointer (some ⟨p, 0, none⟩)) rfl rfl (by kernel_rfl) (by kernel_rfl) (by kernel_rfl) (by kernel_rfl) (by kernel_rfl) (by kernel_rfl) (fun _ _ _ h => h) hS0 (by rfl) (by intro w' hSw; obtain ⟨y0, y1, y2, y3, y4, y5, y6⟩ := hSw; go_simp <;> with_reducible rfl) ?_
  simp only [Act.put, List.setIfInBounds_toArray, List.set_cons_zero, List.set_cons_succ]
  refine wpAnyL_take (i := 1) 30 (v := .pointer (some ⟨p, 0, none⟩)) rfl rfl (by kernel_rfl) (by kernel_rfl) (by kernel_rfl) (by kernel_rfl) (by kernel_rfl) (by kernel_rfl) (fun _ _ _ h => h) hS0 (by rfl) (by intro w' hSw; obtain ⟨y0, y1, y2, y3, y4, y5, y6⟩ := hSw; go_simp <;> with_reducible rfl) ?_
  simp only [Act.put, List.setIfInBounds_toArray, List.set_cons_zero, List.set_cons_succ]
  refine wpAnyL_take (i := 2) 31 (v := .pointer (some ⟨p, 0, none⟩)) rfl rfl (by kernel_rfl) (by kernel_rfl) (by kernel_rfl) (by kernel_rfl) (by kernel_rfl) (by kernel_rfl) (fun _ _ _ h => h) hS0 (by rfl) (by intro w' hSw; obtain ⟨y0, y1, y2, y3, y4, y5, y6⟩ := hSw; go_simp <;> with_reducible rfl) ?_
  simp only [Act.put, List.setIfInBounds_toArray, List.set_cons_zero, List.set_cons_succ]
  refine wpAnyL_take (i := 3) 32 (v := .pointer (some ⟨p, 2, none⟩)) rfl rfl (by kernel_rfl) (by kernel_rfl) (by kernel_rfl) (by kernel_rfl) (by kernel_rfl) (by kernel_rfl) (fun _ _ _ h => h) hS0 (by rfl) (by intro w' hSw; obtain ⟨y0, y1, y2, y3, y4, y5, y6⟩ := hSw; go_simp <;> with_reducible rfl) ?_
  simp only [Act.put, List.setIfInBounds_toArray, List.set_cons_zero, List.set_cons_succ]
  refine wpAnyL_take (i := 4) 33 (v := .slice none 0 0) rfl rfl (by kernel_rfl) (by kernel_rfl) (by kernel_rfl) (by kernel_rfl) (by kernel_rfl) (by kernel_rfl) (fun _ _ _ h => h) hS0 (by rfl) (by intro w' hSw; obtain ⟨y0, y1, y2, y3, y4, y5, y6⟩ := hSw; go_simp <;> with_reducible rfl) ?_
  simp only [Act.put, List.setIfInBounds_toArray, List.set_cons_zero, List.set_cons_succ]
  refine wpAnyL_take (i := 5) 34 (v := .agg #[.string t, .slice go gl gc, .slice po pl pc, .int .i64 st, .int .i64 se, .int .i64 pa]) rfl rfl (by kernel_rfl) (by kernel_rfl) (by kernel_rfl) (by kernel_rfl) (by kernel_rfl) (by kernel_rfl) (fun _ _ _ h => h) hS0 (by rfl) (by intro w' hSw; obtain ⟨y0, y1, y2, y3, y4, y5, y6⟩ := hSw; go_simp <;> with_reducible rfl) ?_
  simp only [Act.put, List.setIfInBounds_toArray, List.set_cons_zero, List.set_cons_succ]
  refine wpAnyL_take (i := 6) 35 (v := .agg #[.string t, .slice go gl gc, .slice po pl pc, .int .i64 st, .int .i64 se, .int .i64 pa, .int .i64 1, .int .i64 0, .int .i64 0, .int .i64 0, .slice none 0 0]) rfl rfl (by kernel_rfl) (by kernel_rfl) (by kernel_rfl) (by kernel_rfl) (by kernel_rfl) (by kernel_rfl) (fun _ _ _ h => h) hS0 (by rfl) (by intro w' hSw; obtain ⟨y0, y1, y2, y3, y4, y5, y6⟩ := hSw; go_simp <;> with_reducible rfl) ?_
  simp only [Act.put, List.setIfInBounds_toArray, List.set_cons_zero, List.set_cons_succ]
  refine wpAnyL_one (i := 7) (by kernel_rfl) rfl (fun Ka hKa => ?_)
  go_simp
  obtain ⟨We, hWe⟩ : ∃ We, Wd.alloc (.cells #[.string t, .slice go gl gc, .slice po pl pc, .int .i64 st, .int .i64 se, .int .i64 pa, .int .i64 1, .int .i64 0, .int .i64 0, .int .i64 0, .slice none 0 0] 170) = We := ⟨_, rfl⟩
  have be : Below Wd.heap.size Wd We := by rw [← hWe]; exact ma_new _ _
  have hne := heap_alloc_new Wd (.cells #[.string t, .slice go gl gc, .slice po pl pc, .int .i64 st, .int .i64 se, .int .i64 pa, .int .i64 1, .int .i64 0, .int .i64 0, .int .i64 0, .slice none 0 0] 170)
  try rw [hWe]
  rw [hWe] at hne
  have hS1 : (fun w' : World => w'.cell? ⟨p, 2, none⟩ = some (.slice none 0 0) ∧ w'.cell? ⟨bk, 0, none⟩ = some (.string t) ∧ w'.cell? ⟨bk, 1, none⟩ = some (.slice go gl gc) ∧ w'.cell? ⟨bk, 2, none⟩ = some (.slice po pl pc) ∧ w'.cell? ⟨bk, 3, none⟩ = some (.int .i64 st) ∧ w'.cell? ⟨bk, 4, none⟩ = some (.int .i64 se) ∧ w'.cell? ⟨bk, 5, none⟩ = some (.int .i64 pa)) We := ⟨(be.cell (ma_ltc hS0.1)).trans hS0.1, (be.cell (ma_ltc hS0.2.1)).trans hS0.2.1, (be.cell (ma_ltc hS0.2.2.1)).trans hS0.2.2.1, (be.cell (ma_ltc hS0.2.2.2.1)).trans hS0.2.2.2.1, (be.cell (ma_ltc hS0.2.2.2.2.1)).trans hS0.2.2.2.2.1, (be.cell (ma_ltc hS0.2.2.2.2.2.1)).trans hS0.2.2.2.2.2.1, (be.cell (ma_ltc hS0.2.2.2.2.2.2)).trans hS0.2.2.2.2.2.2⟩
  refine hKa.out _ _ (fun _ => hS1) ?_
  clear hKa Ka
  try simp only [Act.put, List.setIfInBounds_toArray, List.set_cons_zero, List.set_cons_succ]
  have b5e : Below W5.heap.size W5 We := bd.trans (be.mono bd.size)
  refine wpAnyL_one (i := 8) (by kernel_rfl) rfl (fun Kb hKb => ?_)
  refine step_append_own rfl (.tmp 33) (.tmp 36) 157 rfl W5.heap.size 170 ij _ 11 144 Tryz.underlying157 hij z0 z1 z2 rfl (by decide) (.slice none 0 0) _ _ (by simp [Act.eval]) (World.ownsRow_nil _ _ _ _) ⟨Wd.heap.size, 0, none⟩ 1 1 [.string t, .slice go gl gc, .slice po pl pc, .int .i64 st, .int .i64 se, .int .i64 pa, .int .i64 1, .int .i64 0, .int .i64 0, .int .i64 0, .slice none 0 0] (by simp [Act.eval]) rfl (w_cells hne) (by intro u hu; simp at hu; rcases hu with rfl | rfl | rfl | rfl | rfl | rfl | rfl | rfl | rfl | rfl | rfl <;> rfl) (by decide) (by decide) b5e.size ?_
  intro v1 w1 own1 gr1 _
  obtain ⟨jb, jc, rfl, hJ1, hjb⟩ := jb_of_own own1
  have f1 : Fr We w1 (fun _ => False) := Fr.grown gr1 (fun k hk => by cases hk)
  have b1 : Below We.heap.size We w1 := ⟨f1.os, f1.tape, f1.output, f1.size, fun k hk => f1.block k hk (fun h => h)⟩
  have hS2 : (fun w' : World => w'.cell? ⟨p, 2, none⟩ = some (.slice none 0 0) ∧ w'.cell? ⟨bk, 0, none⟩ = some (.string t) ∧ w'.cell? ⟨bk, 1, none⟩ = some (.slice go gl gc) ∧ w'.cell? ⟨bk, 2, none⟩ = some (.slice po pl pc) ∧ w'.cell? ⟨bk, 3, none⟩ = some (.int .i64 st) ∧ w'.cell? ⟨bk, 4, none⟩ = some (.int .i64 se) ∧ w'.cell? ⟨bk, 5, none⟩ = some (.int .i64 pa)) w1 := ⟨(b1.cell (ma_ltc hS1.1)).trans hS1.1, (b1.cell (ma_ltc hS1.2.1)).trans hS1.2.1, (b1.cell (ma_ltc hS1.2.2.1)).trans hS1.2.2.1, (b1.cell (ma_ltc hS1.2.2.2.1)).trans hS1.2.2.2.1, (b1.cell (ma_ltc hS1.2.2.2.2.1)).trans hS1.2.2.2.2.1, (b1.cell (ma_ltc hS1.2.2.2.2.2.1)).trans hS1.2.2.2.2.2.1, (b1.cell (ma_ltc hS1.2.2.2.2.2.2)).trans hS1.2.2.2.2.2.2⟩
  have b51 : Below W5.heap.size W5 w1 := b5e.trans (b1.mono b5e.size)
  refine hKb.out _ _ (fun _ => hS2) ?_
  clear hKb Kb
  try simp only [Act.put, List.setIfInBounds_toArray, List.set_cons_zero, List.set_cons_succ]
  refine wpAnyL_take (i := 9) 38 (v := .pointer (some ⟨p, 0, none⟩)) rfl rfl (by kernel_rfl) (by kernel_rfl) (by kernel_rfl) (by kernel_rfl) (by kernel_rfl) (by kernel_rfl) (fun _ _ _ h => h) hS2 (by rfl) (by intro w' hSw; obtain ⟨y0, y1, y2, y3, y4, y5, y6⟩ := hSw; go_simp <;> with_reducible rfl) ?_
  simp only [Act.put, List.setIfInBounds_toArray, List.set_cons_zero, List.set_cons_succ]
  refine wpAnyL_take (i := 10) 39 (v := .pointer (some ⟨p, 2, none⟩)) rfl rfl (by kernel_rfl) (by kernel_rfl) (by kernel_rfl) (by kernel_rfl) (by kernel_rfl) (by kernel_rfl) (fun _ _ _ h => h) hS2 (by rfl) (by intro w' hSw; obtain ⟨y0, y1, y2, y3, y4, y5, y6⟩ := hSw; go_simp <;> with_reducible rfl) ?_
  simp only [Act.put, List.setIfInBounds_toArray, List.set_cons_zero, List.set_cons_succ]
  have HA1 : Hid (MaBox w1 p ax none (.slice none 0 0) 0 (.pointer none) []) := HA5.out.new b51
  have g2 := HA1.out.f 2
  have cc2 := HA1.out.c.2.2.1
  refine wpAnyL_one (i := 11) (by kernel_rfl) rfl (fun Kc hKc => ?_)
  go_simp
  generalize hX : World.setCell _ _ _ = W9
  have HA9 : Hid (MaBox W9 p ax none (.slice (some ⟨jb, 0, none⟩) 1 jc) 0 (.pointer none) []) := by
    rw [← hX]
    exact ⟨ma_set (.slice (some ⟨jb, 0, none⟩) 1 jc) HA1.out.box, HA1.out.wk.kept (Fr.setCell (S := fun k => k = p) _ _ _ rfl) (fun b hb => HA1.out.ne b hb), HA1.out.ne⟩
  have f9 : Fr w1 W9 (fun k => k = p) := by rw [← hX]; exact Fr.setCell (S := fun k => k = p) _ _ _ rfl
  refine hKc.out _ _ (fun h => absurd h (Bool.eq_false_iff.1 (by kernel_rfl))) ?_
  clear hKc Kc hX
  try simp only [Act.put, List.setIfInBounds_toArray, List.set_cons_zero, List.set_cons_succ]
  refine wpAnyL_done (by kernel_rfl) ?_ _
  have HJ9 : Hid (JbAt W9 jb [.string t, .slice go gl gc, .slice po pl pc, .int .i64 st, .int .i64 se, .int .i64 pa] 1) := hJ1.kept f9 (fun e => by have := HA5.out.lt; omega)
  have HF9 : Hid (Fr W5 W9 (fun k => k = p)) := (Fr.ofBelow b51 (fun k => k = p)).trans f9 (fun _ _ h => h)
  have HJb : Hid (W5.heap.size ≤ jb) := hjb
  have hGo := mgoon_empty HA9.out
  have e2 := HA9.out.c.2.2.1
  clear hS0 hS1 hS2 own1 gr1 hJ1 f1 b1 b51 b5e be bd hne f9 g2 cc2 c2 d0 d1 d2 d3 d4 d5 hjb
  have HK9 : Hid (W9.heap[gr]? = some (.cells #[.int .i64 0, .int .i64 0] 62 (0, 0))) := (HF9.out.block gr (ma_lt HK5.out) (fun e => by have := HPs.out; have := HGr.out; omega)).trans HK5.out
  go_wp2_with (first
    | (go_at_call 129; refine hGo.mono ?_; rintro r w10 ⟨rfl, e10⟩; obtain rfl : W9 = w10 := e10.symm)
    | (refine wpList_store_row rfl 62 _ _ rfl gr #[.int .i64 0, .int .i64 1] rfl rfl 62 #[.int .i64 0, .int .i64 0] HK9.out size_reply rfl (by simp [Value.oneCell']) ?_))
  refine bodyPost_ret (v := .agg #[.int .i64 0, .int .i64 1]) (results_cell_row Tryz.results70 _ _ gr 62 _ (0, 0) _ rfl (setRow_heap _ _ _ _ _ _ HK9.out) Tryz.underlying62 rfl size_reply) rfl ?_
  have f11 := ap_setRow W9 gr #[.int .i64 0, .int .i64 1]
  have s9 := HF9.out.size
  have s5 := ma_lt HK5.out
  have hgr := HGr.out
  have hps := HPs.out
  have hjb := HJb.out
  have hz0 := HZ0.out
  have f5 : Fr W5 (W9.setRow gr #[.int .i64 0, .int .i64 1]) (fun k => k = p ∨ k = gr) := (HF9.out.mono (fun k _ hk => .inl hk)).trans f11 (fun k _ hk => .inr hk)
  refine ⟨rfl, ⟨jb, jc, go, gc, po, pc, ?_, ?_, ?_, ?_, by have := HBw.out.size; omega⟩, ?_⟩
  · exact HA9.out.kept f11 (fun e => by omega) (fun b hb e => by cases hb)
  · rw [hgl, hpl]; exact HJ9.out.kept f11 (fun e => by omega)
  · exact HV5.out.kept f5 (fun k _ hk => ⟨fun e => by rcases e with e | e <;> omega, by omega⟩)
  · exact HP5.out.kept f5 (fun k _ hk => ⟨fun e => by rcases e with e | e <;> omega, by omega⟩)
  · exact (Fr.ofBelow HBw.out (fun k => k = p)).trans f5 (fun k hk e => by
      rcases e with e | e
      · exact e
      · omega)
/-- Bytes that are no job's. -/
def DecNo (s : ByteArray) (e : Nat) : Prop := ∀ W : World, Calls Tryz.prog 12 #[.string s] W fun r w' => r = .returned (.tuple #[.agg #[.string ByteArray.empty, .slice none 0 0, .slice none 0 0, .int .i64 0, .int .i64 0, .int .i64 0], .int .i64 e]) ∧ Below W.heap.size W w'
set_option maxRecDepth 100000 in
set_option maxHeartbeats 2000000 in
theorem msubmit_no {w : World} {p : Nat} {s : ByteArray} {e : Nat} (h0 : e ≠ 0) (hD : DecNo s e) : Calls Tryz.prog 70 #[.pointer (some ⟨p, 0, none⟩), .string s] w fun r w' => r = .returned (.agg #[.int .i64 e, .int .i64 0]) ∧ Below w.heap.size w w' := by
  obtain ⟨W0, hW0⟩ : ∃ W0, w.alloc (.cells #[.int .i64 0, .int .i64 0] 62) = W0 := ⟨_, rfl⟩
  have HB0 : Hid (Below w.heap.size w W0) := by rw [← hW0]; exact ma_new _ _
  have k0 := heap_alloc_new w (.cells #[.int .i64 0, .int .i64 0] 62)
  rw [hW0] at k0
  have HK0 : Hid _ := k0
  have hd := hD W0
  have he : ¬ (e : Int) = 0 := by omega
  have HS0 : Hid (w.heap.size < W0.heap.size) := ma_lt k0
  clear k0 hD h0
  go_enter Tryz.func70, Tryz.ntmps70
  go_upto_region 2 with (go_at_call 12; refine hd.mono ?_; rintro r w2 ⟨rfl, hb2⟩)
  have HB2 : Hid (Below W0.heap.size W0 w2) := hb2
  clear hW0 hd hb2
  generalize hW3 : World.alloc w2 _ = W3
  have HB3 : Hid (Below w2.heap.size w2 W3) := by rw [← hW3]; exact ma_new _ _
  have HB03 : Hid (Below W0.heap.size W0 W3) := HB2.out.trans (HB3.out.mono HB2.out.size)
  have HK3 : Hid (W3.heap[w.heap.size]? = some (.cells #[.int .i64 0, .int .i64 0] 62 (0, 0))) := (HB03.out.block _ HS0.out).trans HK0.out
  clear hW3
  generalize w2.heap.size = bk
  go_wp2_with (refine wpList_store_row rfl 62 _ _ rfl w.heap.size #[.int .i64 e, .int .i64 0] rfl rfl 62 #[.int .i64 0, .int .i64 0] HK3.out size_reply rfl (by simp [Value.oneCell']) ?_)
  refine bodyPost_ret (v := .agg #[.int .i64 e, .int .i64 0]) (results_cell_row Tryz.results70 _ _ w.heap.size 62 _ (0, 0) _ rfl (setRow_heap _ _ _ _ _ _ HK3.out) Tryz.underlying62 rfl size_reply) rfl ?_
  have h1 := HB0.out.trans (HB03.out.mono HB0.out.size)
  exact ⟨rfl, h1.trans ((ap_setRow W3 w.heap.size #[.int .i64 e, .int .i64 0]).below h1.size (fun k hk => by omega))⟩
/-- Any bytes are a job's, or none. -/
theorem dec_all (s : ByteArray) (hs : s.size ≤ maxLen) : (∃ t G ps st se pa, DecOk s t G ps st se pa) ∨ ∃ e : Nat, e ≠ 0 ∧ e ≤ 1000 ∧ DecNo s e := by
  obtain ⟨t, G, n, ps, st, se, pa, a1, a2, a3, a4, a5, a6, a7, e1, e2, e3, e4, e5, e6, e7, hJ⟩ := jr_any s 0 0
  have he := jr_err hJ
  by_cases h0 : rdEnd s a7 (jErr e7 t G ps st se pa) = 0
  · have h1 : jErr e7 t G ps st se pa = 0 := by
      unfold rdEnd at h0
      split at h0
      · omega
      · exact h0
    rw [h1] at h0
    exact .inl ⟨t, G, ps, st, se, pa, fun W => decj_good hs hJ h1 h0⟩
  · obtain ⟨x, hx⟩ : ∃ x, rdEnd s a7 (jErr e7 t G ps st se pa) = x := ⟨_, rfl⟩
    rw [hx] at h0 he
    obtain ⟨hl, hu⟩ := he
    obtain ⟨k, rfl⟩ : ∃ k : Nat, x = k := ⟨x.toNat, by omega⟩
    exact .inr ⟨k, by omega, by omega, fun W => decj_bad hs hJ rfl hx h0⟩
end Go.Proofs.YthkfbaoeimjgaaaGreat
end
