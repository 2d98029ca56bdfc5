import Derived.Test.YthkfbaoeimjgaaaGreatMaSnM
import Derived.Test.YthkfbaoeimjgaaaGreatMaJbM
import Derived.Deep.MidRow
section
/- A master that nobody has asked yet, with no worker: requests of any session, once; Apply of any command. -/
namespace Go.Proofs.YthkfbaoeimjgaaaGreat
open Go.RowKit Go.Maps
attribute [local go_sem] Oper.semAt_some
/-- No course is there, nor a worker. -/
def NoC (w : World) (p : Nat) (ax : Value) : Prop := ∃ js, MaBox w p ax none js 0 (.pointer none) []
theorem NoC.kept {w w' : World} {p : Nat} {ax : Value} (h : NoC w p ax) {S : Nat → Prop} (f : Fr w w' S) (hs : ¬ S p) : NoC w' p ax := by
  obtain ⟨js, h⟩ := h
  exact ⟨js, h.kept f hs (fun b hb => by cases hb)⟩
theorem lookR_nil (k n : Int) : freshR [] k n ∨ ∃ e : Nat, e ≠ 0 ∧ lookR [] k n = (str [], false, (e : Int)) := by
  have hl : (lastR [] k).n = 0 := rfl
  unfold freshR lookR
  rw [hl]
  by_cases h1 : n < 1
  · exact .inr ⟨1, by decide, by rw [if_pos h1]; rfl⟩
  · by_cases h2 : 0 < n - 1
    · exact .inr ⟨151, by decide, by rw [if_neg h1, if_neg (by omega), if_neg (by omega), if_pos h2]; rfl⟩
    · left
      rw [if_neg h1, if_neg (by omega), if_neg (by omega), if_neg h2, if_neg (by simp)]
      exact ⟨rfl, rfl⟩
/-- A function that is handed in as a request's: what it tells, at a master with no course and no worker. -/
structure Cls (g bm bc p : Nat) (e i : Nat) (HC : World → Prop) : Prop where
  eg : ∀ args w, (callFunc g args).run Tryz.prog w = .ok (.enter g args) w
  he : e ≤ 2147483647
  hi : i ≤ 2147483647
  run : ∀ (W : World) (ax : Value), MaBox W p ax none (.slice none 0 0) 0 (.pointer none) [] → HC W → Calls Tryz.prog g #[.pointer (some ⟨bm, 0, none⟩), .pointer (some ⟨bc, 0, none⟩)] W fun r w' => r = .returned (.agg #[.int .i64 e, .int .i64 i]) ∧ NoC w' p ax ∧ Fr W w' (fun k => k = p)
set_option maxRecDepth 100000 in
theorem cls_submit {bm bc p : Nat} {s : ByteArray} (hs : s.size ≤ maxLen) : ∃ e i, Cls 69 bm bc p e i (fun W => W.cell? ⟨bm, 0, none⟩ = some (.pointer (some ⟨p, 0, none⟩)) ∧ W.cell? ⟨bc, 3, none⟩ = some (.string s)) := by
  rcases dec_all s hs with ⟨t, G, ps, st, se, pa, hD⟩ | ⟨e, h0, he, hD⟩
  · refine ⟨0, 1, enters_ap, by decide, by decide, fun W ax h hc => ?_⟩
    obtain ⟨hm, hc⟩ := hc
    have HSb : Hid (∀ V, Below W.heap.size W V → Calls Tryz.prog 70 #[.pointer (some ⟨p, 0, none⟩), .string s] V fun r w' => r = .returned (.agg #[.int .i64 0, .int .i64 1]) ∧ NoC w' p ax ∧ Fr V w' (fun k => k = p)) := fun V hb => (msubmit_n (h.new hb) hD).mono (fun r w' ⟨h1, h2, h3⟩ => ⟨h1, by obtain ⟨jb, jc, _, _, _, _, hM, _⟩ := h2; exact ⟨_, hM⟩, h3⟩)
    have HPs : Hid (p < W.heap.size) := h.lt
    clear h
    go_enter Tryz.func69, Tryz.ntmps69
    go_upto_region 1 with (fail)
    generalize hV : World.alloc _ _ = V
    have HB : Hid (Below W.heap.size W V) := by rw [← hV]; exact ma_new _ _
    have hk : V.heap[W.heap.size]? = some (.cells #[.int .i64 0, .int .i64 0] 62 (0, 0)) := by rw [← hV]; exact heap_alloc_new _ _
    have HK : Hid _ := hk
    have c0 := (HB.out.cell (ma_ltc hm)).trans hm
    have c1 := (HB.out.cell (ma_ltc hc)).trans hc
    have HV : Hid (W.heap.size < V.heap.size) := ma_lt hk
    have hSb := HSb.out V HB.out
    clear hV hm hc hk
    go_wp2_with (first
      | (go_at_call 70; refine hSb.mono ?_; rintro r w5 ⟨rfl, q1, q5⟩; have HQ : Hid (NoC w5 p ax) := q1; have HF5 : Hid (Fr V w5 (fun k => k = p)) := q5; have HK5 : Hid (w5.heap[W.heap.size]? = some (.cells #[.int .i64 0, .int .i64 0] 62 (0, 0))) := (q5.block _ HV.out (by have := HPs.out; omega)).trans HK.out; clear q1 q5)
      | (refine wpList_store_row rfl 62 _ _ rfl W.heap.size #[.int .i64 0, .int .i64 1] rfl rfl 62 #[.int .i64 0, .int .i64 0] HK5.out size_reply rfl (by simp [Value.oneCell']) ?_))
    refine bodyPost_ret (v := .agg #[.int .i64 0, .int .i64 1]) (results_cell_row Tryz.results69 _ _ W.heap.size 62 _ (0, 0) _ rfl (setRow_heap _ _ _ _ _ _ HK5.out) Tryz.underlying62 rfl size_reply) rfl ?_
    have f6 := ap_setRow w5 W.heap.size #[.int .i64 0, .int .i64 1]
    have hps := HPs.out
    exact ⟨rfl, HQ.out.kept f6 (fun e => by omega), ((Fr.ofBelow HB.out (fun k => k = p)).trans HF5.out (fun _ _ h => h)).trans f6 (fun k hk e => by omega)⟩
  · refine ⟨e, 0, enters_ap, by omega, by decide, fun W ax h hc => ?_⟩
    obtain ⟨hm, hc⟩ := hc
    have HSb : Hid (∀ V, Below W.heap.size W V → Calls Tryz.prog 70 #[.pointer (some ⟨p, 0, none⟩), .string s] V fun r w' => r = .returned (.agg #[.int .i64 e, .int .i64 0]) ∧ NoC w' p ax ∧ Fr V w' (fun k => k = p)) := fun V hb => (msubmit_no h0 hD).mono (fun r w' ⟨h1, h2⟩ => ⟨h1, ⟨_, h.new (hb.trans (h2.mono hb.size))⟩, Fr.ofBelow h2 _⟩)
    have HPs : Hid (p < W.heap.size) := h.lt
    clear h
    go_enter Tryz.func69, Tryz.ntmps69
    go_upto_region 1 with (fail)
    generalize hV : World.alloc _ _ = V
    have HB : Hid (Below W.heap.size W V) := by rw [← hV]; exact ma_new _ _
    have hk : V.heap[W.heap.size]? = some (.cells #[.int .i64 0, .int .i64 0] 62 (0, 0)) := by rw [← hV]; exact heap_alloc_new _ _
    have HK : Hid _ := hk
    have c0 := (HB.out.cell (ma_ltc hm)).trans hm
    have c1 := (HB.out.cell (ma_ltc hc)).trans hc
    have HV : Hid (W.heap.size < V.heap.size) := ma_lt hk
    have hSb := HSb.out V HB.out
    clear hV hm hc hk
    go_wp2_with (first
      | (go_at_call 70; refine hSb.mono ?_; rintro r w5 ⟨rfl, q1, q5⟩; have HQ : Hid (NoC w5 p ax) := q1; have HF5 : Hid (Fr V w5 (fun k => k = p)) := q5; have HK5 : Hid (w5.heap[W.heap.size]? = some (.cells #[.int .i64 0, .int .i64 0] 62 (0, 0))) := (q5.block _ HV.out (by have := HPs.out; omega)).trans HK.out; clear q1 q5)
      | (refine wpList_store_row rfl 62 _ _ rfl W.heap.size #[.int .i64 e, .int .i64 0] rfl rfl 62 #[.int .i64 0, .int .i64 0] HK5.out size_reply rfl (by simp [Value.oneCell']) ?_))
    refine bodyPost_ret (v := .agg #[.int .i64 e, .int .i64 0]) (results_cell_row Tryz.results69 _ _ W.heap.size 62 _ (0, 0) _ rfl (setRow_heap _ _ _ _ _ _ HK5.out) Tryz.underlying62 rfl size_reply) rfl ?_
    have f6 := ap_setRow w5 W.heap.size #[.int .i64 e, .int .i64 0]
    have hps := HPs.out
    exact ⟨rfl, HQ.out.kept f6 (fun e => by omega), ((Fr.ofBelow HB.out (fun k => k = p)).trans HF5.out (fun _ _ h => h)).trans f6 (fun k hk e => by omega)⟩
theorem enters_ca : ∀ args w, (callFunc 71 args).run Tryz.prog w = .ok (.enter 71 args) w := enters_of Tryz.func71 (by kernel_rfl) rfl
set_option maxRecDepth 100000 in
theorem mcancel_none {w : World} {p : Nat} {ax cr : Value} {mb : Option Nat} {ep : Int} {M : List Pz} (h : MaBox w p ax mb (.slice none 0 0) ep cr M) (x : Int) : Calls Tryz.prog 72 #[.pointer (some ⟨p, 0, none⟩), .int .i64 x] w fun r w' => r = .returned (.agg #[.int .i64 170, .int .i64 0]) ∧ Below w.heap.size w w' := by
  obtain ⟨V, hV⟩ : ∃ V, w.alloc (.cells #[.int .i64 0, .int .i64 0] 62) = V := ⟨_, rfl⟩
  have hk : V.heap[w.heap.size]? = some (.cells #[.int .i64 0, .int .i64 0] 62 (0, 0)) := by rw [← hV]; exact heap_alloc_new _ _
  have hb : Below w.heap.size w V := by rw [← hV]; exact ma_new _ _
  have HK : Hid _ := hk
  have HB : Hid _ := hb
  have hKn := knows_none (h.new hb) x
  clear hk hb h
  go_enter Tryz.func72, Tryz.ntmps72
  go_upto_region 1 with (fail)
  clear hV
  go_wp2_with (first
    | (go_at_call 83; refine hKn.mono ?_; rintro r w1 ⟨rfl, h1⟩; rw [h1]; clear h1)
    | (refine wpList_store_row rfl 62 _ _ rfl w.heap.size #[.int .i64 170, .int .i64 0] rfl rfl 62 #[.int .i64 0, .int .i64 0] HK.out size_reply rfl (by simp [Value.oneCell']) ?_))
  have hf := ap_setRow V w.heap.size #[.int .i64 170, .int .i64 0]
  refine bodyPost_ret (v := .agg #[.int .i64 170, .int .i64 0]) (results_cell_row Tryz.results72 _ _ w.heap.size 62 _ (0, 0) _ rfl (setRow_heap _ _ _ _ _ _ HK.out) Tryz.underlying62 rfl size_reply) rfl ?_
  exact ⟨rfl, HB.out.trans (hf.below HB.out.size (fun k hk => by omega))⟩
set_option maxRecDepth 100000 in
theorem cls_cancel {bm bc p : Nat} {x : Int} : Cls 71 bm bc p 170 0 (fun W => W.cell? ⟨bm, 0, none⟩ = some (.pointer (some ⟨p, 0, none⟩)) ∧ W.cell? ⟨bc, 4, none⟩ = some (.int .i64 x)) := by
  refine ⟨enters_ca, by decide, by decide, fun W ax h hc => ?_⟩
  obtain ⟨hm, hc⟩ := hc
  have HSb : Hid (∀ V, Below W.heap.size W V → Calls Tryz.prog 72 #[.pointer (some ⟨p, 0, none⟩), .int .i64 x] V fun r w' => r = .returned (.agg #[.int .i64 170, .int .i64 0]) ∧ NoC w' p ax ∧ Fr V w' (fun k => k = p)) := fun V hb => (mcancel_none (h.new hb) x).mono (fun r w' ⟨h1, h2⟩ => ⟨h1, ⟨_, h.new (hb.trans (h2.mono hb.size))⟩, Fr.ofBelow h2 _⟩)
  have HPs : Hid (p < W.heap.size) := h.lt
  clear h
  go_enter Tryz.func71, Tryz.ntmps71
  go_upto_region 1 with (fail)
  generalize hV : World.alloc _ _ = V
  have HB : Hid (Below W.heap.size W V) := by rw [← hV]; exact ma_new _ _
  have hk : V.heap[W.heap.size]? = some (.cells #[.int .i64 0, .int .i64 0] 62 (0, 0)) := by rw [← hV]; exact heap_alloc_new _ _
  have HK : Hid _ := hk
  have c0 := (HB.out.cell (ma_ltc hm)).trans hm
  have c1 := (HB.out.cell (ma_ltc hc)).trans hc
  have HV : Hid (W.heap.size < V.heap.size) := ma_lt hk
  have hSb := HSb.out V HB.out
  clear hV hm hc hk
  go_wp2_with (first
    | (go_at_call 72; refine hSb.mono ?_; rintro r w5 ⟨rfl, q1, q5⟩; have HQ : Hid (NoC w5 p ax) := q1; have HF5 : Hid (Fr V w5 (fun k => k = p)) := q5; have HK5 : Hid (w5.heap[W.heap.size]? = some (.cells #[.int .i64 0, .int .i64 0] 62 (0, 0))) := (q5.block _ HV.out (by have := HPs.out; omega)).trans HK.out; clear q1 q5)
    | (refine wpList_store_row rfl 62 _ _ rfl W.heap.size #[.int .i64 170, .int .i64 0] rfl rfl 62 #[.int .i64 0, .int .i64 0] HK5.out size_reply rfl (by simp [Value.oneCell']) ?_))
  refine bodyPost_ret (v := .agg #[.int .i64 170, .int .i64 0]) (results_cell_row Tryz.results71 _ _ W.heap.size 62 _ (0, 0) _ rfl (setRow_heap _ _ _ _ _ _ HK5.out) Tryz.underlying62 rfl size_reply) rfl ?_
  have f6 := ap_setRow w5 W.heap.size #[.int .i64 170, .int .i64 0]
  have hps := HPs.out
  exact ⟨rfl, HQ.out.kept f6 (fun e => by omega), ((Fr.ofBelow HB.out (fun k => k = p)).trans HF5.out (fun _ _ h => h)).trans f6 (fun k hk e => by omega)⟩
set_option maxRecDepth 100000 in
set_option maxHeartbeats 1000000 in
theorem nreq1 {w : World} {p g bm bc bf e i : Nat} {ax : Value} {HC : World → Prop} (hg : Cls g bm bc p e i HC) (h : MaBox w p ax none (.slice none 0 0) 0 (.pointer none) []) (hc : HC w) (hf : w.cell? ⟨bf, 0, none⟩ = some (.func (.func g) #[] #[.pointer (some ⟨bm, 0, none⟩), .pointer (some ⟨bc, 0, none⟩)])) :
    Calls Tryz.prog 127 #[.pointer (some ⟨bf, 0, none⟩)] w fun r w' => r = .returned (.string (str (repB e i))) ∧ NoC w' p ax ∧ Fr w w' (fun k => k = p) := by
  have hSb := hg.run w ax h hc
  have eg := hg.eg
  have HE : Hid (e ≤ 2147483647 ∧ i ≤ 2147483647) := ⟨hg.he, hg.hi⟩
  clear h hc hg
  go_enter Tryz.func127, Tryz.ntmps127
  go_wp2_with (first
    | (go_at_fn g; refine hSb.mono ?_; rintro r w5 ⟨rfl, q1, q5⟩; have HQ : Hid (NoC w5 p ax) := q1; have HF5 : Hid (Fr w w5 (fun k => k = p)) := q5; clear q1 q5)
    | (go_at_call 128; refine (mtextof e i HE.out.1 HE.out.2).mono ?_; rintro r w6 ⟨rfl, hb6⟩))
  go_ret
  have f6 : Fr w5 w6 (fun _ => False) := Fr.ofBelow hb6 _
  exact ⟨rfl, HQ.out.kept f6 (fun h => h), HF5.out.trans f6 (fun _ _ h => h.elim)⟩
set_option maxRecDepth 100000 in
set_option maxHeartbeats 2000000 in
/-- Do, of a request of any session at a table that is empty: done, or refused. -/
theorem ndo {w wt : World} {p g tb bm bc bf B e i : Nat} {sk sn : Int} {HC : World → Prop} (hHC : ∀ V V', Fr V V' (fun k => k = p ∨ w.heap.size ≤ k) → HC V → HC V') (hn : sn ≤ 9223372036854775807) (hg : Cls g bm bc p e i HC) (hp : p < w.heap.size)
    (hc : HC w) (hf : w.cell? ⟨bf, 0, none⟩ = some (.func (.func g) #[] #[.pointer (some ⟨bm, 0, none⟩), .pointer (some ⟨bc, 0, none⟩)])) (hbf : bf ≠ p)
    (hA : MaBox wt p (.pointer (some ⟨tb, 0, none⟩)) none (.slice none 0 0) 0 (.pointer none) []) (hT : TA wt B tb (.slice none 0 0) []) (htb : w.heap.size ≤ tb) (hft : Fr w wt (fun k => k = p)) :
    ∃ (s0 : ByteArray) (b0 : Bool) (x : Nat), (x = 0 → s0 = str (repB e i)) ∧ Calls Tryz.prog 126 #[.pointer (some ⟨tb, 0, none⟩), .int .i64 sk, .int .i64 sn, .func (.func 127) #[] #[.pointer (some ⟨bf, 0, none⟩)]] wt fun r w' => r = .returned (.tuple #[.string s0, .bool b0, .int .i64 x]) ∧ NoC w' p (.pointer (some ⟨tb, 0, none⟩)) ∧ Fr w w' (fun k => k = p) := by
  have hf1 := ma_frc hft hbf hf
  have hbf2 := ma_ltc hf
  have hst := hft.size
  have hlt := hT.lt
  rcases lookR_nil sk sn with hfr | ⟨x, hx0, hx⟩
  · refine ⟨str (repB e i), true, 0, fun _ => rfl, ?_⟩
    refine (sdo_freshW hT Tab.nil (k := sk) (n := sn) hn hfr (g := 127) (cb := #[.pointer (some ⟨bf, 0, none⟩)]) (s := str (repB e i)) (S := fun k => k = p) (fun k hk => ⟨by omega, by omega, fun e => by cases e⟩) (Q := fun _ W' => NoC W' p (.pointer (some ⟨tb, 0, none⟩))) (fun W hF => ⟨enters_rq, ?_⟩)).mono ?_
    · have hn : ∀ k, k < w.heap.size → ¬ (k = tb ∨ (Value.slice none 0 0).ownBlock = some k) := fun k hk e => by
        rcases e with e | e
        · omega
        · cases e
      have hcw : HC W := hHC w W ((hft.mono (fun k _ h => .inl h)).trans hF (fun k hk h => by
        rcases h with h | h
        · exact .inr (by omega)
        · cases h)) hc
      refine (nreq1 hg (hA.kept hF (hn p hp) (fun b hb => by cases hb)) hcw (ma_frc hF (hn bf hbf2) hf1)).mono ?_
      rintro r w' ⟨h1, h2, h3⟩
      exact ⟨h1, h3, h2⟩
    · rintro r w' ⟨h1, w4, w5, v4, v', g1, g2, g3, g4, g5, _⟩
      have hs4 := g1.size
      have g5' : ∀ k, v4.ownBlock = some k → wt.heap.size ≤ k ∧ k < w4.heap.size := fun k hk => by
        rcases g5 k hk with e | e
        · cases e
        · exact e
      refine ⟨h1, g3.kept g4 (fun e => ?_), ?_⟩
      · rcases e with e | e
        · omega
        · have := g5' p e; omega
      · have f1 : Fr w w4 (fun k => k = p) := hft.trans g1 (fun k hk e => by
          rcases e with e | e
          · omega
          · cases e)
        have f2 : Fr w w5 (fun k => k = p) := f1.trans g2 (fun _ _ h => h)
        exact f2.trans g4 (fun k hk e => by
          rcases e with e | e
          · omega
          · have := g5' k e; omega)
  · refine ⟨str [], false, x, fun h => absurd h hx0, ?_⟩
    have hnf : ¬ freshR [] sk sn := fun h => by
      unfold freshR at h
      rw [hx] at h
      simp only at h
      omega
    refine (sdo_old hT Tab.nil hn hnf _).mono ?_
    rw [hx]
    rintro r w' ⟨h1, h2⟩
    exact ⟨h1, ⟨_, hA.new h2⟩, hft.trans (Fr.ofBelow h2 (fun k => k = p)) (fun _ _ h => h)⟩
end Go.Proofs.YthkfbaoeimjgaaaGreat
end

section
/- request at a master that nobody has asked yet, with no course and no worker. -/
namespace Go.Proofs.YthkfbaoeimjgaaaGreat
open Go.RowKit Go.Maps
attribute [local go_sem] Oper.semAt_some
set_option linter.unusedSimpArgs false in
set_option maxRecDepth 100000 in
set_option maxHeartbeats 4000000 in
theorem nrequest {w : World} {p g bm bc e i : Nat} {sk sn : Int} {HC : World → Prop} (hHC : ∀ V V', Fr V V' (fun k => k = p ∨ w.heap.size ≤ k) → HC V → HC V') (h : MaBox w p (.pointer none) none (.slice none 0 0) 0 (.pointer none) []) (hn : sn ≤ 9223372036854775807) (hg : Cls g bm bc p e i HC) (hc : HC w) (x0 x3 x4 x5 x6 x7 x8 x9 x10 x11 x12 x13 x14 x15 x16 x17 x18 x19 x20 x21 x22 x23 x24 x25 x26 : Value) :
    Calls Tryz.prog 68 #[.pointer (some ⟨p, 0, none⟩), .agg #[x0, .int .i64 sk, .int .i64 sn, x3, x4, x5, x6, x7, x8, x9, x10, x11, x12, x13, x14, x15, x16, x17, x18, x19, x20, x21, x22, x23, x24, x25, x26], .func (.func g) #[] #[.pointer (some ⟨bm, 0, none⟩), .pointer (some ⟨bc, 0, none⟩)]] w fun r w' => (∃ a b er : Int, r = .returned (.tuple #[.agg #[.int .i64 a, .int .i64 b], .int .i64 er])) ∧ ∃ ax', NoC w' p ax' ∧ Fr w w' (fun k => k = p) := by
  have hmf : ∀ (fn : Fn) (first cap : Array Value) (w : World), (Instr.makeFunc fn first cap).run Tryz.prog w = .ok (.func fn first cap) w := fun _ _ _ _ => rfl
  have HPs : Hid (p < w.heap.size) := h.lt
  obtain ⟨W1, hW1⟩ : ∃ W1, w.alloc (.cells #[x0, .int .i64 sk, .int .i64 sn, x3, x4, x5, x6, x7, x8, x9, x10, x11, x12, x13, x14, x15, x16, x17, x18, x19, x20, x21, x22, x23, x24, x25, x26] 59) = W1 := ⟨_, rfl⟩
  obtain ⟨W2, hW2⟩ : ∃ W2, W1.alloc (.cells #[.func (.func g) #[] #[.pointer (some ⟨bm, 0, none⟩), .pointer (some ⟨bc, 0, none⟩)]] 149) = W2 := ⟨_, rfl⟩
  obtain ⟨W3, hW3⟩ : ∃ W3, W2.alloc (.cells #[.int .i64 0, .int .i64 0] 62) = W3 := ⟨_, rfl⟩
  have b1 : Below w.heap.size w W1 := by rw [← hW1]; exact ma_new _ _
  have b2 : Below W1.heap.size W1 W2 := by rw [← hW2]; exact ma_new _ _
  have b3 : Below W2.heap.size W2 W3 := by rw [← hW3]; exact ma_new _ _
  have s1 : W1.heap.size = w.heap.size + 1 := by rw [← hW1]; simp
  have s2 : W2.heap.size = w.heap.size + 2 := by rw [← hW2, World.size_alloc, s1]
  have s3 : W3.heap.size = w.heap.size + 3 := by rw [← hW3, World.size_alloc, s2]
  have k1 := heap_alloc_new w (.cells #[x0, .int .i64 sk, .int .i64 sn, x3, x4, x5, x6, x7, x8, x9, x10, x11, x12, x13, x14, x15, x16, x17, x18, x19, x20, x21, x22, x23, x24, x25, x26] 59)
  rw [hW1] at k1
  have k2 := heap_alloc_new W1 (.cells #[.func (.func g) #[] #[.pointer (some ⟨bm, 0, none⟩), .pointer (some ⟨bc, 0, none⟩)]] 149)
  rw [hW2] at k2
  have k3 := heap_alloc_new W2 (.cells #[.int .i64 0, .int .i64 0] 62)
  rw [hW3] at k3
  obtain ⟨bd, hbd⟩ : ∃ bd, w.heap.size = bd := ⟨_, rfl⟩
  obtain ⟨bf, hbf⟩ : ∃ bf, W1.heap.size = bf := ⟨_, rfl⟩
  obtain ⟨gr, hgr⟩ : ∃ gr, W2.heap.size = gr := ⟨_, rfl⟩
  rw [hbd] at k1
  rw [hbf] at k2
  rw [hgr] at k3
  have k1' := (b3.block bd (by omega)).trans ((b2.block bd (by omega)).trans k1)
  have k2' := (b3.block bf (by omega)).trans k2
  have d1 : W3.cell? ⟨bd, 1, none⟩ = some (.int .i64 sk) := by simp [World.cell?, k1']
  have d2 : W3.cell? ⟨bd, 2, none⟩ = some (.int .i64 sn) := by simp [World.cell?, k1']
  have hf : W3.cell? ⟨bf, 0, none⟩ = some (.func (.func g) #[] #[.pointer (some ⟨bm, 0, none⟩), .pointer (some ⟨bc, 0, none⟩)]) := by simp [World.cell?, k2']
  have b13 : Below w.heap.size w W3 := (b1.trans (b2.mono (by omega))).trans (b3.mono (by omega))
  have HB : Hid (Below w.heap.size w W3) := b13
  have HA3 : Hid (MaBox W3 p (.pointer none) none (.slice none 0 0) 0 (.pointer none) []) := h.new b13
  have HRe : Hid (W3.heap[gr]? = some (.cells #[.int .i64 0, .int .i64 0] 62 (0, 0))) := k3
  have HLt : Hid (p < bd) := by have := h.lt; show _ < _; omega
  have HGr : Hid (gr = w.heap.size + 2 ∧ W3.heap.size = w.heap.size + 3) := ⟨by omega, s3⟩
  have hpl := h.lt
  have HDo0 : Hid (∀ wt tb, MaBox wt p (.pointer (some ⟨tb, 0, none⟩)) none (.slice none 0 0) 0 (.pointer none) [] → (∀ {B : Nat}, TA wt B tb (.slice none 0 0) [] → W3.heap.size ≤ tb → Fr W3 wt (fun k => k = p) → ∃ (s0 : ByteArray) (b0 : Bool) (x : Nat), (x = 0 → s0 = str (repB e i)) ∧ Calls Tryz.prog 126 #[.pointer (some ⟨tb, 0, none⟩), .int .i64 sk, .int .i64 sn, .func (.func 127) #[] #[.pointer (some ⟨bf, 0, none⟩)]] wt fun r w' => r = .returned (.tuple #[.string s0, .bool b0, .int .i64 x]) ∧ NoC w' p (.pointer (some ⟨tb, 0, none⟩)) ∧ Fr W3 w' (fun k => k = p))) := fun wt tb hA B hT htb hft =>
    ndo (fun V V' f => hHC V V' (f.mono (fun k _ hk => hk.elim .inl (fun hk => .inr (Nat.le_trans b13.size hk))))) hn hg (by omega) (hHC w W3 (Fr.ofBelow b13 _) hc) hf (by omega) hA hT htb hft
  have HE : Hid (e ≤ 2147483647 ∧ i ≤ 2147483647) := ⟨hg.he, hg.hi⟩
  clear h b1 b2 b3 s1 s2 s3 k1 k2 k3 k1' k2' hc hf b13 hg hHC hn
  go_enter Tryz.func68, Tryz.ntmps68
  go_upto_region 1 with (fail)
  clear hW1 hW2 hW3 hbd hbf hgr
  obtain ⟨Wd, hWd⟩ : ∃ Wd, World.drew W3 = Wd := ⟨_, rfl⟩
  have bd3 : Below W3.heap.size W3 Wd := by rw [← hWd]; exact ((Below.refl _ W3).drew)
  have hS0 : (fun w' : World => w'.cell? ⟨bd, 1, none⟩ = some (.int .i64 sk) ∧ w'.cell? ⟨bd, 2, none⟩ = some (.int .i64 sn)) Wd := ⟨(bd3.cell (ma_ltc d1)).trans d1, (bd3.cell (ma_ltc d2)).trans d2⟩
  have HAd : Hid (MaBox Wd p (.pointer none) none (.slice none 0 0) 0 (.pointer none) []) := HA3.out.new bd3
  have HB3d : Hid (Below W3.heap.size W3 Wd) := bd3
  refine ma_calm ?_
  refine wp_region_L [] (fun w' : World => w'.cell? ⟨bd, 1, none⟩ = some (.int .i64 sk) ∧ w'.cell? ⟨bd, 2, none⟩ = some (.int .i64 sn)) (by kernel_rfl) ?_
  rw [hWd]
  clear hWd bd3
  refine wpAnyL_take (i := 0) 12 (v := .pointer (some ⟨p, 0, none⟩)) rfl rfl (by kernel_rfl) (by kernel_rfl) (by kernel_rfl) (by kernel_rfl) (by kernel_rfl) (by kernel_rfl) (fun _ _ _ h => h) hS0 (by rfl) (by intro w' hSw; obtain ⟨y0, y1⟩ := hSw; go_simp <;> with_reducible rfl) ?_
  simp only [Act.put, List.setIfInBounds_toArray, List.set_cons_zero, List.set_cons_succ]
  refine wpAnyL_take (i := 2) 14 (v := .pointer (some ⟨bd, 1, none⟩)) rfl rfl (by kernel_rfl) (by kernel_rfl) (by kernel_rfl) (by kernel_rfl) (by kernel_rfl) (by kernel_rfl) (fun _ _ _ h => h) hS0 (by rfl) (by intro w' hSw; obtain ⟨y0, y1⟩ := hSw; go_simp <;> with_reducible rfl) ?_
  simp only [Act.put, List.setIfInBounds_toArray, List.set_cons_zero, List.set_cons_succ]
  refine wpAnyL_take (i := 3) 15 (v := .int .i64 sk) rfl rfl (by kernel_rfl) (by kernel_rfl) (by kernel_rfl) (by kernel_rfl) (by kernel_rfl) (by kernel_rfl) (fun _ _ _ h => h) hS0 (by rfl) (by intro w' hSw; obtain ⟨y0, y1⟩ := hSw; go_simp <;> with_reducible rfl) ?_
  simp only [Act.put, List.setIfInBounds_toArray, List.set_cons_zero, List.set_cons_succ]
  refine wpAnyL_take (i := 4) 16 (v := .pointer (some ⟨bd, 2, none⟩)) rfl rfl (by kernel_rfl) (by kernel_rfl) (by kernel_rfl) (by kernel_rfl) (by kernel_rfl) (by kernel_rfl) (fun _ _ _ h => h) hS0 (by rfl) (by intro w' hSw; obtain ⟨y0, y1⟩ := hSw; go_simp <;> with_reducible rfl) ?_
  simp only [Act.put, List.setIfInBounds_toArray, List.set_cons_zero, List.set_cons_succ]
  refine wpAnyL_take (i := 5) 17 (v := .int .i64 sn) rfl rfl (by kernel_rfl) (by kernel_rfl) (by kernel_rfl) (by kernel_rfl) (by kernel_rfl) (by kernel_rfl) (fun _ _ _ h => h) hS0 (by rfl) (by intro w' hSw; obtain ⟨y0, y1⟩ := hSw; go_simp <;> with_reducible rfl) ?_
  simp only [Act.put, List.setIfInBounds_toArray, List.set_cons_zero, List.set_cons_succ]
  refine wpAnyL_take (i := 6) 18 (v := .func (.func 127) #[] #[.pointer (some ⟨bf, 0, none⟩)]) rfl rfl (by kernel_rfl) (by kernel_rfl) (by kernel_rfl) (by kernel_rfl) (by kernel_rfl) (by kernel_rfl) (fun _ _ _ h => h) hS0 (by rfl) (by intro w' hSw; obtain ⟨y0, y1⟩ := hSw; go_simp <;> with_reducible rfl) ?_
  simp only [Act.put, List.setIfInBounds_toArray, List.set_cons_zero, List.set_cons_succ]
  refine wpAnyL_one (i := 1) (by kernel_rfl) rfl (fun Ka hKa => ?_)
  go_simp
  refine (mtable HAd.out).mono ?_
  rintro r wt ⟨tb, rfl, hAt, hTt, htb, hft⟩
  have HAt : Hid (MaBox wt p (.pointer (some ⟨tb, 0, none⟩)) none (.slice none 0 0) 0 (.pointer none) []) := hAt
  have HTt : Hid (TA wt Wd.heap.size tb (.slice none 0 0) []) := hTt
  have HTb : Hid (Wd.heap.size ≤ tb) := htb
  have HFt : Hid (Fr Wd wt (fun k => k = p)) := hft
  have hS1 : (fun w' : World => w'.cell? ⟨bd, 1, none⟩ = some (.int .i64 sk) ∧ w'.cell? ⟨bd, 2, none⟩ = some (.int .i64 sn)) wt := ⟨ma_frc hft (by have := HLt.out; omega) hS0.1, ma_frc hft (by have := HLt.out; omega) hS0.2⟩
  refine hKa.out _ _ (fun _ => hS1) ?_
  clear hKa Ka hAt hTt htb hft
  try simp only [Act.put, List.setIfInBounds_toArray, List.set_cons_zero, List.set_cons_succ]
  obtain ⟨s0, b0, x, hx0, HDo⟩ := HDo0.out wt tb HAt.out HTt.out (Nat.le_trans HB3d.out.size HTb.out) ((Fr.ofBelow HB3d.out (fun k => k = p)).trans HFt.out (fun _ _ h => h))
  refine wpAnyL_one (i := 7) (by kernel_rfl) rfl (fun Kb hKb => ?_)
  go_simp
  refine HDo.mono ?_
  rintro r w6 ⟨rfl, hq6, hf6⟩
  have HQ6 : Hid (NoC w6 p (.pointer (some ⟨tb, 0, none⟩))) := hq6
  have HF6 : Hid (Fr W3 w6 (fun k => k = p)) := hf6
  have hS2 : (fun w' : World => w'.cell? ⟨bd, 1, none⟩ = some (.int .i64 sk) ∧ w'.cell? ⟨bd, 2, none⟩ = some (.int .i64 sn)) w6 := ⟨ma_frc hf6 (by have := HLt.out; omega) d1, ma_frc hf6 (by have := HLt.out; omega) d2⟩
  refine hKb.out _ _ (fun _ => hS2) ?_
  clear hKb Kb hq6 hf6 HDo
  try simp only [Act.put, List.setIfInBounds_toArray, List.set_cons_zero, List.set_cons_succ]
  refine wpAnyL_take (i := 8) 11 (v := .tuple #[.string s0, .bool b0, .int .i64 x]) rfl rfl (by kernel_rfl) (by kernel_rfl) (by kernel_rfl) (by kernel_rfl) (by kernel_rfl) (by kernel_rfl) (fun _ _ _ h => h) hS2 (by rfl) (by intro w' hSw; obtain ⟨y0, y1⟩ := hSw; go_simp <;> with_reducible rfl) ?_
  simp only [Act.put, List.setIfInBounds_toArray, List.set_cons_zero, List.set_cons_succ]
  refine wpAnyL_take (i := 9) 20 (v := .string s0) rfl rfl (by kernel_rfl) (by kernel_rfl) (by kernel_rfl) (by kernel_rfl) (by kernel_rfl) (by kernel_rfl) (fun _ _ _ h => h) hS2 (by rfl) (by intro w' hSw; obtain ⟨y0, y1⟩ := hSw; go_simp <;> with_reducible rfl) ?_
  simp only [Act.put, List.setIfInBounds_toArray, List.set_cons_zero, List.set_cons_succ]
  refine wpAnyL_take (i := 10) 21 (v := .bool b0) rfl rfl (by kernel_rfl) (by kernel_rfl) (by kernel_rfl) (by kernel_rfl) (by kernel_rfl) (by kernel_rfl) (fun _ _ _ h => h) hS2 (by rfl) (by intro w' hSw; obtain ⟨y0, y1⟩ := hSw; go_simp <;> with_reducible rfl) ?_
  simp only [Act.put, List.setIfInBounds_toArray, List.set_cons_zero, List.set_cons_succ]
  refine wpAnyL_take (i := 11) 22 (v := .int .i64 x) rfl rfl (by kernel_rfl) (by kernel_rfl) (by kernel_rfl) (by kernel_rfl) (by kernel_rfl) (by kernel_rfl) (fun _ _ _ h => h) hS2 (by rfl) (by intro w' hSw; obtain ⟨y0, y1⟩ := hSw; go_simp <;> with_reducible rfl) ?_
  simp only [Act.put, List.setIfInBounds_toArray, List.set_cons_zero, List.set_cons_succ]
  refine wpAnyL_take (i := 12) 8 (v := .string s0) rfl rfl (by kernel_rfl) (by kernel_rfl) (by kernel_rfl) (by kernel_rfl) (by kernel_rfl) (by kernel_rfl) (fun _ _ _ h => h) hS2 (by rfl) (by intro w' hSw; obtain ⟨y0, y1⟩ := hSw; go_simp <;> with_reducible rfl) ?_
  simp only [Act.put, List.setIfInBounds_toArray, List.set_cons_zero, List.set_cons_succ]
  refine wpAnyL_take (i := 13) 9 (v := .bool b0) rfl rfl (by kernel_rfl) (by kernel_rfl) (by kernel_rfl) (by kernel_rfl) (by kernel_rfl) (by kernel_rfl) (fun _ _ _ h => h) hS2 (by rfl) (by intro w' hSw; obtain ⟨y0, y1⟩ := hSw; go_simp <;> with_reducible rfl) ?_
  simp only [Act.put, List.setIfInBounds_toArray, List.set_cons_zero, List.set_cons_succ]
  refine wpAnyL_take (i := 14) 10 (v := .int .i64 x) rfl rfl (by kernel_rfl) (by kernel_rfl) (by kernel_rfl) (by kernel_rfl) (by kernel_rfl) (by kernel_rfl) (fun _ _ _ h => h) hS2 (by rfl) (by intro w' hSw; obtain ⟨y0, y1⟩ := hSw; go_simp <;> with_reducible rfl) ?_
  simp only [Act.put, List.setIfInBounds_toArray, List.set_cons_zero, List.set_cons_succ]
  refine wpAnyL_done (by kernel_rfl) ?_ _
  have HK6 : Hid (w6.heap[gr]? = some (.cells #[.int .i64 0, .int .i64 0] 62 (0, 0))) := (HF6.out.block gr (ma_lt HRe.out) (by have := HPs.out; have := HGr.out.1; omega)).trans HRe.out
  clear hS0 hS1 hS2 d1 d2 hmf
  have HX0 : Hid (x = 0 → s0 = str (repB e i)) := hx0
  clear hx0
  have HFw : Hid (Fr w w6 (fun k => k = p)) := (Fr.ofBelow HB.out (fun k => k = p)).trans HF6.out (fun _ _ h => h)
  by_cases hx : x = 0
  · have hs0 := HX0.out hx
    subst hx hs0
    go_wp2_with (first
      | (go_at_call 78; refine (mreplyof e i HE.out.1 HE.out.2).mono ?_; rintro r w7 ⟨rfl, hb7⟩; have HB7 : Hid (Below w6.heap.size w6 w7) := hb7; have HK7 : Hid (w7.heap[gr]? = some (.cells #[.int .i64 0, .int .i64 0] 62 (0, 0))) := (hb7.block gr (ma_lt HK6.out)).trans HK6.out; clear hb7)
      | (refine wpList_store_row rfl 62 _ _ rfl gr #[.int .i64 e, .int .i64 i] rfl rfl 62 #[.int .i64 0, .int .i64 0] HK7.out size_reply rfl (by simp [Value.oneCell']) ?_))
    refine bodyPost_ret (v := .tuple #[.agg #[.int .i64 e, .int .i64 i], .int .i64 0]) (res_ctJ Tryz.results68 _ _ gr 62 _ (0, 0) _ rfl (setRow_heap _ _ _ _ _ _ HK7.out) Tryz.underlying62 rfl size_reply) rfl ?_
    have hps := HPs.out
    have hgr := HGr.out
    have f8 := ap_setRow w7 gr #[.int .i64 e, .int .i64 i]
    have f7 : Fr w6 w7 (fun _ => False) := Fr.ofBelow HB7.out _
    exact ⟨⟨e, i, 0, rfl⟩, _, (HQ6.out.kept f7 (fun h => h)).kept f8 (fun e => by omega), (HFw.out.trans f7 (fun _ _ h => h.elim)).trans f8 (fun k hk e => by omega)⟩
  · have hxi : ¬ (x : Int) = 0 := by omega
    go_wp2_with (refine wpList_store_row rfl 62 _ _ rfl gr #[.int .i64 0, .int .i64 0] rfl rfl 62 #[.int .i64 0, .int .i64 0] HK6.out size_reply rfl (by simp [Value.oneCell']) ?_)
    refine bodyPost_ret (v := .tuple #[.agg #[.int .i64 0, .int .i64 0], .int .i64 x]) (res_ctJ Tryz.results68 _ _ gr 62 _ (0, 0) _ rfl (setRow_heap _ _ _ _ _ _ HK6.out) Tryz.underlying62 rfl size_reply) rfl ?_
    have hps := HPs.out
    have hgr := HGr.out
    have f8 := ap_setRow w6 gr #[.int .i64 0, .int .i64 0]
    exact ⟨⟨0, 0, x, rfl⟩, _, HQ6.out.kept f8 (fun e => by omega), HFw.out.trans f8 (fun k hk e => by omega)⟩
end Go.Proofs.YthkfbaoeimjgaaaGreat
end

section
/- Apply of any command at a master that nobody has asked yet. -/
namespace Go.Proofs.YthkfbaoeimjgaaaGreat
open Go.RowKit Go.Maps
attribute [local go_sem] Oper.semAt_some
set_option maxRecDepth 100000 in
set_option maxHeartbeats 2000000 in
theorem napply_submit {w : World} {p : Nat} {sk sn : Int} {s : ByteArray} (hs : s.size ≤ maxLen) (h : MaBox w p (.pointer none) none (.slice none 0 0) 0 (.pointer none) []) (hn : sn ≤ 9223372036854775807) (q4 q5 q6 r0 r1 r2 r3 r4 r5 r6 r7 r8 r9 r10 r11 r12 r13 r14 r15 r16 r17 r18 r19 : Value) :
    Calls Tryz.prog 21 #[.pointer (some ⟨p, 0, none⟩), .agg #[.int .i64 1, .int .i64 sk, .int .i64 sn, .string s, q4, q5, q6, r0, r1, r2, r3, r4, r5, r6, r7, r8, r9, r10, r11, r12, r13, r14, r15, r16, r17, r18, r19]] w fun r w' => (∃ a b er : Int, r = .returned (.tuple #[.agg #[.int .i64 a, .int .i64 b], .int .i64 er])) ∧ ∃ ax', NoC w' p ax' ∧ Fr w w' (fun k => k = p) := by
  obtain ⟨W0, hW0⟩ : ∃ W0, w.alloc (.cells #[.pointer (some ⟨p, 0, none⟩)] 60) = W0 := ⟨_, rfl⟩
  obtain ⟨W1, hW1⟩ : ∃ W1, W0.alloc (.cells #[.int .i64 1, .int .i64 sk, .int .i64 sn, .string s, q4, q5, q6, r0, r1, r2, r3, r4, r5, r6, r7, r8, r9, r10, r11, r12, r13, r14, r15, r16, r17, r18, r19] 59) = W1 := ⟨_, rfl⟩
  obtain ⟨W2, hW2⟩ : ∃ W2, W1.alloc (.cells #[.int .i64 0, .int .i64 0] 62) = W2 := ⟨_, rfl⟩
  have b0 : Below w.heap.size w W0 := by rw [← hW0]; exact ma_new _ _
  have b1 : Below W0.heap.size W0 W1 := by rw [← hW1]; exact ma_new _ _
  have b2 : Below W1.heap.size W1 W2 := by rw [← hW2]; exact ma_new _ _
  have s0 : W0.heap.size = w.heap.size + 1 := by rw [← hW0]; simp
  have s1 : W1.heap.size = w.heap.size + 2 := by rw [← hW1, World.size_alloc, s0]
  have k0 := heap_alloc_new w (.cells #[.pointer (some ⟨p, 0, none⟩)] 60)
  rw [hW0] at k0
  have k1 := heap_alloc_new W0 (.cells #[.int .i64 1, .int .i64 sk, .int .i64 sn, .string s, q4, q5, q6, r0, r1, r2, r3, r4, r5, r6, r7, r8, r9, r10, r11, r12, r13, r14, r15, r16, r17, r18, r19] 59)
  rw [hW1] at k1
  have k2 := heap_alloc_new W1 (.cells #[.int .i64 0, .int .i64 0] 62)
  rw [hW2] at k2
  obtain ⟨gc, hgc⟩ : ∃ gc, W0.heap.size = gc := ⟨_, rfl⟩
  obtain ⟨gr, hgr⟩ : ∃ gr, W1.heap.size = gr := ⟨_, rfl⟩
  rw [hgc] at k1
  rw [hgr] at k2
  have HGr : Hid (gr = w.heap.size + 2) := by show _ = _; omega
  have k0' : W2.heap[w.heap.size]? = some (.cells #[.pointer (some ⟨p, 0, none⟩)] 60 (0, 0)) := (b2.block _ (by omega)).trans ((b1.block _ (by omega)).trans k0)
  have k1' : W2.heap[gc]? = some (.cells #[.int .i64 1, .int .i64 sk, .int .i64 sn, .string s, q4, q5, q6, r0, r1, r2, r3, r4, r5, r6, r7, r8, r9, r10, r11, r12, r13, r14, r15, r16, r17, r18, r19] 59 (0, 0)) := (b2.block _ (by omega)).trans k1
  have c0 : W2.cell? ⟨w.heap.size, 0, none⟩ = some (.pointer (some ⟨p, 0, none⟩)) := by simp [World.cell?, k0']
  have c1 : W2.cell? ⟨gc, 0, none⟩ = some (.int .i64 1) := by simp [World.cell?, k1']
  have c3 : W2.cell? ⟨gc, 3, none⟩ = some (.string s) := by simp [World.cell?, k1']
  have HB : Hid (Below w.heap.size w W2) := (b0.trans (b1.mono b0.size)).trans (b2.mono (by omega))
  have HRe : Hid (W2.heap[gr]? = some (.cells #[.int .i64 0, .int .i64 0] 62 (0, 0))) := k2
  have HLt : Hid (p < w.heap.size ∧ True) := ⟨h.lt, trivial⟩
  have hpl := h.lt
  obtain ⟨e, i, hg⟩ := cls_submit (bm := w.heap.size) (bc := gc) (p := p) hs
  have hwl : w.heap.size < W2.heap.size := by have := ma_lt k2; omega
  have hcl : gc < W2.heap.size := ma_ltc c1
  have hC := fun x0 x3 x4 x5 x6 x7 x8 x9 x10 x11 x12 x13 x14 x15 x16 x17 x18 x19 x20 x21 x22 x23 x24 x25 x26 => nrequest (HC := (fun W => W.cell? ⟨w.heap.size, 0, none⟩ = some (.pointer (some ⟨p, 0, none⟩)) ∧ W.cell? ⟨gc, 3, none⟩ = some (.string s))) (fun V V' f hc => ⟨ma_frc f (by show ¬ (w.heap.size = p ∨ W2.heap.size ≤ w.heap.size); omega) hc.1, ma_frc f (by show ¬ (gc = p ∨ W2.heap.size ≤ gc); omega) hc.2⟩) (h.new HB.out) hn hg (sk := sk) ⟨c0, c3⟩ x0 x3 x4 x5 x6 x7 x8 x9 x10 x11 x12 x13 x14 x15 x16 x17 x18 x19 x20 x21 x22 x23 x24 x25 x26
  have HCm : Hid (W2.heap[gc]? = some (.cells #[.int .i64 1, .int .i64 sk, .int .i64 sn, .string s, q4, q5, q6, r0, r1, r2, r3, r4, r5, r6, r7, r8, r9, r10, r11, r12, r13, r14, r15, r16, r17, r18, r19] 59 (0, 0))) := k1'
  have hmf : ∀ (fn : Fn) (first cap : Array Value) (w : World), (Instr.makeFunc fn first cap).run Tryz.prog w = .ok (.func fn first cap) w := fun _ _ _ _ => rfl
  clear h b0 b1 b2 k0 k1 k2 k0' k1' s0 s1 hwl hcl
  go_enter Tryz.func21, Tryz.ntmps21
  go_upto_region 1 with (fail)
  clear hW0 hW1 hW2 hgc hgr
  obtain ⟨g, hg⟩ : ∃ g, w.heap.size = g := ⟨_, rfl⟩
  have HG : Hid (w.heap.size = g) := hg
  rw [hg] at c0 hC ⊢
  clear hg
  go_wp2_with (first
    | (refine wpList_load_row rfl 59 _ rfl gc rfl 59 #[.int .i64 1, .int .i64 sk, .int .i64 sn, .string s, q4, q5, q6, r0, r1, r2, r3, r4, r5, r6, r7, r8, r9, r10, r11, r12, r13, r14, r15, r16, r17, r18, r19] (0, 0) _ HCm.out Tryz.underlying59 rfl size_cmd ?_)
    | (go_at_call 68; refine (hC _ _ _ _ _ _ _ _ _ _ _ _ _ _ _ _ _ _ _ _ _ _ _ _ _).mono ?_; rintro r w4 ⟨⟨ra, rb, er, rfl⟩, ax', hq, hf⟩; have HQ : Hid (NoC w4 p ax') := hq; have HF : Hid (Fr W2 w4 (fun k => k = p)) := hf; have HRe4 : Hid (w4.heap[gr]? = some (.cells #[.int .i64 0, .int .i64 0] 62 (0, 0))) := (hf.block gr (ma_lt HRe.out) (by have := HLt.out.1; have := HGr.out; omega)).trans HRe.out; clear hq hf)
    | (refine wpList_store_row rfl 62 _ _ rfl gr #[.int .i64 ra, .int .i64 rb] rfl rfl 62 #[.int .i64 0, .int .i64 0] HRe4.out size_reply rfl (by simp [Value.oneCell']) ?_))
  refine bodyPost_ret (v := .tuple #[.agg #[.int .i64 ra, .int .i64 rb], .int .i64 er]) (res_ctJ Tryz.results21 _ _ gr 62 _ (0, 0) _ rfl (setRow_heap _ _ _ _ _ _ HRe4.out) Tryz.underlying62 rfl size_reply) rfl ?_
  have f8 := ap_setRow w4 gr #[.int .i64 ra, .int .i64 rb]
  have hps := HLt.out.1
  have hgr := HGr.out
  have hlr := ma_lt HRe.out
  refine ⟨⟨ra, rb, er, rfl⟩, ax', HQ.out.kept f8 (fun e => by omega), ?_⟩
  exact ((Fr.ofBelow HB.out (fun k => k = p)).trans HF.out (fun _ _ h => h)).trans f8 (fun k hk e => by omega)
set_option maxRecDepth 100000 in
set_option maxHeartbeats 2000000 in
theorem napply_cancel {w : World} {p : Nat} {sk sn : Int} {x : Int} (h : MaBox w p (.pointer none) none (.slice none 0 0) 0 (.pointer none) []) (hn : sn ≤ 9223372036854775807) (q3 q5 q6 r0 r1 r2 r3 r4 r5 r6 r7 r8 r9 r10 r11 r12 r13 r14 r15 r16 r17 r18 r19 : Value) :
    Calls Tryz.prog 21 #[.pointer (some ⟨p, 0, none⟩), .agg #[.int .i64 2, .int .i64 sk, .int .i64 sn, q3, .int .i64 x, q5, q6, r0, r1, r2, r3, r4, r5, r6, r7, r8, r9, r10, r11, r12, r13, r14, r15, r16, r17, r18, r19]] w fun r w' => (∃ a b er : Int, r = .returned (.tuple #[.agg #[.int .i64 a, .int .i64 b], .int .i64 er])) ∧ ∃ ax', NoC w' p ax' ∧ Fr w w' (fun k => k = p) := by
  obtain ⟨W0, hW0⟩ : ∃ W0, w.alloc (.cells #[.pointer (some ⟨p, 0, none⟩)] 60) = W0 := ⟨_, rfl⟩
  obtain ⟨W1, hW1⟩ : ∃ W1, W0.alloc (.cells #[.int .i64 2, .int .i64 sk, .int .i64 sn, q3, .int .i64 x, q5, q6, r0, r1, r2, r3, r4, r5, r6, r7, r8, r9, r10, r11, r12, r13, r14, r15, r16, r17, r18, r19] 59) = W1 := ⟨_, rfl⟩
  obtain ⟨W2, hW2⟩ : ∃ W2, W1.alloc (.cells #[.int .i64 0, .int .i64 0] 62) = W2 := ⟨_, rfl⟩
  have b0 : Below w.heap.size w W0 := by rw [← hW0]; exact ma_new _ _
  have b1 : Below W0.heap.size W0 W1 := by rw [← hW1]; exact ma_new _ _
  have b2 : Below W1.heap.size W1 W2 := by rw [← hW2]; exact ma_new _ _
  have s0 : W0.heap.size = w.heap.size + 1 := by rw [← hW0]; simp
  have s1 : W1.heap.size = w.heap.size + 2 := by rw [← hW1, World.size_alloc, s0]
  have k0 := heap_alloc_new w (.cells #[.pointer (some ⟨p, 0, none⟩)] 60)
  rw [hW0] at k0
  have k1 := heap_alloc_new W0 (.cells #[.int .i64 2, .int .i64 sk, .int .i64 sn, q3, .int .i64 x, q5, q6, r0, r1, r2, r3, r4, r5, r6, r7, r8, r9, r10, r11, r12, r13, r14, r15, r16, r17, r18, r19] 59)
  rw [hW1] at k1
  have k2 := heap_alloc_new W1 (.cells #[.int .i64 0, .int .i64 0] 62)
  rw [hW2] at k2
  obtain ⟨gc, hgc⟩ : ∃ gc, W0.heap.size = gc := ⟨_, rfl⟩
  obtain ⟨gr, hgr⟩ : ∃ gr, W1.heap.size = gr := ⟨_, rfl⟩
  rw [hgc] at k1
  rw [hgr] at k2
  have HGr : Hid (gr = w.heap.size + 2) := by show _ = _; omega
  have k0' : W2.heap[w.heap.size]? = some (.cells #[.pointer (some ⟨p, 0, none⟩)] 60 (0, 0)) := (b2.block _ (by omega)).trans ((b1.block _ (by omega)).trans k0)
  have k1' : W2.heap[gc]? = some (.cells #[.int .i64 2, .int .i64 sk, .int .i64 sn, q3, .int .i64 x, q5, q6, r0, r1, r2, r3, r4, r5, r6, r7, r8, r9, r10, r11, r12, r13, r14, r15, r16, r17, r18, r19] 59 (0, 0)) := (b2.block _ (by omega)).trans k1
  have c0 : W2.cell? ⟨w.heap.size, 0, none⟩ = some (.pointer (some ⟨p, 0, none⟩)) := by simp [World.cell?, k0']
  have c1 : W2.cell? ⟨gc, 0, none⟩ = some (.int .i64 2) := by simp [World.cell?, k1']
  have c4 : W2.cell? ⟨gc, 4, none⟩ = some (.int .i64 x) := by simp [World.cell?, k1']
  have HB : Hid (Below w.heap.size w W2) := (b0.trans (b1.mono b0.size)).trans (b2.mono (by omega))
  have HRe : Hid (W2.heap[gr]? = some (.cells #[.int .i64 0, .int .i64 0] 62 (0, 0))) := k2
  have HLt : Hid (p < w.heap.size ∧ True) := ⟨h.lt, trivial⟩
  have hpl := h.lt
  have hg := cls_cancel (bm := w.heap.size) (bc := gc) (p := p) (x := x)
  have hwl : w.heap.size < W2.heap.size := by have := ma_lt k2; omega
  have hcl : gc < W2.heap.size := ma_ltc c1
  have hC := fun x0 x3 x4 x5 x6 x7 x8 x9 x10 x11 x12 x13 x14 x15 x16 x17 x18 x19 x20 x21 x22 x23 x24 x25 x26 => nrequest (HC := (fun W => W.cell? ⟨w.heap.size, 0, none⟩ = some (.pointer (some ⟨p, 0, none⟩)) ∧ W.cell? ⟨gc, 4, none⟩ = some (.int .i64 x))) (fun V V' f hc => ⟨ma_frc f (by show ¬ (w.heap.size = p ∨ W2.heap.size ≤ w.heap.size); omega) hc.1, ma_frc f (by show ¬ (gc = p ∨ W2.heap.size ≤ gc); omega) hc.2⟩) (h.new HB.out) hn hg (sk := sk) ⟨c0, c4⟩ x0 x3 x4 x5 x6 x7 x8 x9 x10 x11 x12 x13 x14 x15 x16 x17 x18 x19 x20 x21 x22 x23 x24 x25 x26
  have HCm : Hid (W2.heap[gc]? = some (.cells #[.int .i64 2, .int .i64 sk, .int .i64 sn, q3, .int .i64 x, q5, q6, r0, r1, r2, r3, r4, r5, r6, r7, r8, r9, r10, r11, r12, r13, r14, r15, r16, r17, r18, r19] 59 (0, 0))) := k1'
  have hmf : ∀ (fn : Fn) (first cap : Array Value) (w : World), (Instr.makeFunc fn first cap).run Tryz.prog w = .ok (.func fn first cap) w := fun _ _ _ _ => rfl
  clear h b0 b1 b2 k0 k1 k2 k0' k1' s0 s1 hwl hcl
  go_enter Tryz.func21, Tryz.ntmps21
  go_upto_region 1 with (fail)
  clear hW0 hW1 hW2 hgc hgr
  obtain ⟨g, hg⟩ : ∃ g, w.heap.size = g := ⟨_, rfl⟩
  have HG : Hid (w.heap.size = g) := hg
  rw [hg] at c0 hC ⊢
  clear hg
  go_wp2_with (first
    | (refine wpList_load_row rfl 59 _ rfl gc rfl 59 #[.int .i64 2, .int .i64 sk, .int .i64 sn, q3, .int .i64 x, q5, q6, r0, r1, r2, r3, r4, r5, r6, r7, r8, r9, r10, r11, r12, r13, r14, r15, r16, r17, r18, r19] (0, 0) _ HCm.out Tryz.underlying59 rfl size_cmd ?_)
    | (go_at_call 68; refine (hC _ _ _ _ _ _ _ _ _ _ _ _ _ _ _ _ _ _ _ _ _ _ _ _ _).mono ?_; rintro r w4 ⟨⟨ra, rb, er, rfl⟩, ax', hq, hf⟩; have HQ : Hid (NoC w4 p ax') := hq; have HF : Hid (Fr W2 w4 (fun k => k = p)) := hf; have HRe4 : Hid (w4.heap[gr]? = some (.cells #[.int .i64 0, .int .i64 0] 62 (0, 0))) := (hf.block gr (ma_lt HRe.out) (by have := HLt.out.1; have := HGr.out; omega)).trans HRe.out; clear hq hf)
    | (refine wpList_store_row rfl 62 _ _ rfl gr #[.int .i64 ra, .int .i64 rb] rfl rfl 62 #[.int .i64 0, .int .i64 0] HRe4.out size_reply rfl (by simp [Value.oneCell']) ?_))
  refine bodyPost_ret (v := .tuple #[.agg #[.int .i64 ra, .int .i64 rb], .int .i64 er]) (res_ctJ Tryz.results21 _ _ gr 62 _ (0, 0) _ rfl (setRow_heap _ _ _ _ _ _ HRe4.out) Tryz.underlying62 rfl size_reply) rfl ?_
  have f8 := ap_setRow w4 gr #[.int .i64 ra, .int .i64 rb]
  have hps := HLt.out.1
  have hgr := HGr.out
  have hlr := ma_lt HRe.out
  refine ⟨⟨ra, rb, er, rfl⟩, ax', HQ.out.kept f8 (fun e => by omega), ?_⟩
  exact ((Fr.ofBelow HB.out (fun k => k = p)).trans HF.out (fun _ _ h => h)).trans f8 (fun k hk e => by omega)
theorem awaits_none (x : Int) (w : World) : Calls Tryz.prog 79 #[.pointer none, .int .i64 x] w fun r w' => r = .returned (.bool false) ∧ w' = w := by
  go_enter Tryz.func79, Tryz.ntmps79
  go_wp2_with (go_at_call 131; refine (has_none _ _).mono ?_; rintro r w1 ⟨rfl, h1⟩; rw [h1]; clear h1)
  go_ret
  exact ⟨rfl, rfl⟩
set_option maxRecDepth 100000 in
theorem mwants_none {w : World} {p : Nat} {ax js : Value} {mb : Option Nat} {ep : Int} {M : List Pz} (h : MaBox w p ax mb js ep (.pointer none) M) (r0 r1 r2 r3 r5 r6 r7 r8 r9 r10 r11 r12 r13 r14 r15 r16 r17 r18 r19 : Value) (rw : Int) : Calls Tryz.prog 28 #[.pointer (some ⟨p, 0, none⟩), .agg #[r0, r1, r2, r3, .int .i64 rw, r5, r6, r7, r8, r9, r10, r11, r12, r13, r14, r15, r16, r17, r18, r19]] w fun r w' => r = .returned (.bool false) ∧ Below w.heap.size w w' := by
  obtain ⟨V, hV⟩ : ∃ V, w.alloc (.cells #[r0, r1, r2, r3, .int .i64 rw, r5, r6, r7, r8, r9, r10, r11, r12, r13, r14, r15, r16, r17, r18, r19] 57) = V := ⟨_, rfl⟩
  have hk : V.heap[w.heap.size]? = some (.cells #[r0, r1, r2, r3, .int .i64 rw, r5, r6, r7, r8, r9, r10, r11, r12, r13, r14, r15, r16, r17, r18, r19] 57 (0, 0)) := by rw [← hV]; exact heap_alloc_new _ _
  have hb : Below w.heap.size w V := by rw [← hV]; exact ma_new _ _
  have HB : Hid _ := hb
  obtain ⟨-, -, -, -, c4⟩ := (h.new hb).c
  have k4 : V.cell? ⟨w.heap.size, 4, none⟩ = some (.int .i64 rw) := by simp [World.cell?, hk]
  clear hk hb h
  go_enter Tryz.func28, Tryz.ntmps28
  go_upto_region 1 with (fail)
  clear hV
  go_quiet ((go_at_call 79; exact Calls.quiet_of_same (awaits_none rw _)))
  go_wp2
  go_ret
  exact ⟨rfl, HB.out.trans ((Fr.drewN V _ (fun _ => False)).below HB.out.size (fun _ h => h.elim))⟩
theorem size_repN : (Tryz.prog.info? 57).map (·.size) = some 20 := by kernel_rfl
set_option maxRecDepth 100000 in
theorem mhear_none {w : World} {p : Nat} {ax js : Value} {mb : Option Nat} {ep : Int} {M : List Pz} (h : MaBox w p ax mb js ep (.pointer none) M) (r0 r1 r2 r3 r5 r6 r7 r8 r9 r10 r11 r12 r13 r14 r15 r16 r17 r18 r19 : Value) (rw : Int) : Calls Tryz.prog 75 #[.pointer (some ⟨p, 0, none⟩), .agg #[r0, r1, r2, r3, .int .i64 rw, r5, r6, r7, r8, r9, r10, r11, r12, r13, r14, r15, r16, r17, r18, r19]] w fun r w' => r = .returned (.tuple #[]) ∧ Below w.heap.size w w' := by
  obtain ⟨V, hV⟩ : ∃ V, w.alloc (.cells #[r0, r1, r2, r3, .int .i64 rw, r5, r6, r7, r8, r9, r10, r11, r12, r13, r14, r15, r16, r17, r18, r19] 57) = V := ⟨_, rfl⟩
  have hk : V.heap[w.heap.size]? = some (.cells #[r0, r1, r2, r3, .int .i64 rw, r5, r6, r7, r8, r9, r10, r11, r12, r13, r14, r15, r16, r17, r18, r19] 57 (0, 0)) := by rw [← hV]; exact heap_alloc_new _ _
  have hb : Below w.heap.size w V := by rw [← hV]; exact ma_new _ _
  have HB : Hid _ := hb
  have HK : Hid _ := hk
  have hW := mwants_none (h.new hb) r0 r1 r2 r3 r5 r6 r7 r8 r9 r10 r11 r12 r13 r14 r15 r16 r17 r18 r19 rw
  clear hk hb h
  go_enter Tryz.func75, Tryz.ntmps75
  go_upto_region 1 with (fail)
  clear hV
  go_wp2_with (first
    | (refine wpList_load_row rfl 57 _ rfl w.heap.size rfl 57 #[r0, r1, r2, r3, .int .i64 rw, r5, r6, r7, r8, r9, r10, r11, r12, r13, r14, r15, r16, r17, r18, r19] (0, 0) _ HK.out Tryz.underlying57 rfl size_repN ?_)
    | (go_at_call 28; refine hW.mono ?_; rintro r w4 ⟨rfl, hb4⟩))
  refine bodyPost_ret (results_none rfl _ _ _) rfl ?_
  exact ⟨rfl, HB.out.trans (hb4.mono HB.out.size)⟩
end Go.Proofs.YthkfbaoeimjgaaaGreat
end

section
/- Apply of commands that change nothing, or are none, at a master with no course; of any command at a new one. -/
namespace Go.Proofs.YthkfbaoeimjgaaaGreat
open Go.RowKit Go.Maps
attribute [local go_sem] Oper.semAt_some
theorem cmd_mid {W : World} {b : Nat} {q0 q1 q2 q3 q4 q5 q6 r0 r1 r2 r3 r4 r5 r6 r7 r8 r9 r10 r11 r12 r13 r14 r15 r16 r17 r18 r19 : Value} (h : W.heap[b]? = some (.cells #[q0, q1, q2, q3, q4, q5, q6, r0, r1, r2, r3, r4, r5, r6, r7, r8, r9, r10, r11, r12, r13, r14, r15, r16, r17, r18, r19] 59 (0, 0))) : W.rangeAt b 7 [r0, r1, r2, r3, r4, r5, r6, r7, r8, r9, r10, r11, r12, r13, r14, r15, r16, r17, r18, r19] := by
  have := World.rangeAt_of_block h 7 20
  simpa using this
set_option maxRecDepth 100000 in
set_option maxHeartbeats 2000000 in
theorem napply_report {w : World} {p : Nat} {ax js : Value} {mb : Option Nat} {ep : Int} {M : List Pz} (h : MaBox w p ax mb js ep (.pointer none) M) (q1 q2 q3 q4 q5 q6 r0 r1 r2 r3 r5 r6 r7 r8 r9 r10 r11 r12 r13 r14 r15 r16 r17 r18 r19 : Value) (rw : Int) :
    Calls Tryz.prog 21 #[.pointer (some ⟨p, 0, none⟩), .agg #[.int .i64 5, q1, q2, q3, q4, q5, q6, r0, r1, r2, r3, .int .i64 rw, r5, r6, r7, r8, r9, r10, r11, r12, r13, r14, r15, r16, r17, r18, r19]] w fun r w' => r = .returned (.tuple #[.agg #[.int .i64 0, .int .i64 0], .int .i64 0]) ∧ Below w.heap.size w w' := by
  obtain ⟨W0, hW0⟩ : ∃ W0, w.alloc (.cells #[.pointer (some ⟨p, 0, none⟩)] 60) = W0 := ⟨_, rfl⟩
  obtain ⟨W1, hW1⟩ : ∃ W1, W0.alloc (.cells #[.int .i64 5, q1, q2, q3, q4, q5, q6, r0, r1, r2, r3, .int .i64 rw, r5, r6, r7, r8, r9, r10, r11, r12, r13, r14, r15, r16, r17, r18, r19] 59) = W1 := ⟨_, rfl⟩
  obtain ⟨W2, hW2⟩ : ∃ W2, W1.alloc (.cells #[.int .i64 0, .int .i64 0] 62) = W2 := ⟨_, rfl⟩
  have b0 : Below w.heap.size w W0 := by rw [← hW0]; exact ma_new _ _
  have b1 : Below W0.heap.size W0 W1 := by rw [← hW1]; exact ma_new _ _
  have b2 : Below W1.heap.size W1 W2 := by rw [← hW2]; exact ma_new _ _
  have s0 : W0.heap.size = w.heap.size + 1 := by rw [← hW0]; simp
  have s1 : W1.heap.size = w.heap.size + 2 := by rw [← hW1, World.size_alloc, s0]
  have k0 := heap_alloc_new w (.cells #[.pointer (some ⟨p, 0, none⟩)] 60)
  rw [hW0] at k0
  have k1 := heap_alloc_new W0 (.cells #[.int .i64 5, q1, q2, q3, q4, q5, q6, r0, r1, r2, r3, .int .i64 rw, r5, r6, r7, r8, r9, r10, r11, r12, r13, r14, r15, r16, r17, r18, r19] 59)
  rw [hW1] at k1
  have k2 := heap_alloc_new W1 (.cells #[.int .i64 0, .int .i64 0] 62)
  rw [hW2] at k2
  obtain ⟨gc, hgc⟩ : ∃ gc, W0.heap.size = gc := ⟨_, rfl⟩
  obtain ⟨gr, hgr⟩ : ∃ gr, W1.heap.size = gr := ⟨_, rfl⟩
  rw [hgc] at k1
  rw [hgr] at k2
  have HGr : Hid (gr = w.heap.size + 2) := by show _ = _; omega
  have k0' : W2.heap[w.heap.size]? = some (.cells #[.pointer (some ⟨p, 0, none⟩)] 60 (0, 0)) := (b2.block _ (by omega)).trans ((b1.block _ (by omega)).trans k0)
  have k1' : W2.heap[gc]? = some (.cells #[.int .i64 5, q1, q2, q3, q4, q5, q6, r0, r1, r2, r3, .int .i64 rw, r5, r6, r7, r8, r9, r10, r11, r12, r13, r14, r15, r16, r17, r18, r19] 59 (0, 0)) := (b2.block _ (by omega)).trans k1
  have c0 : W2.cell? ⟨w.heap.size, 0, none⟩ = some (.pointer (some ⟨p, 0, none⟩)) := by simp [World.cell?, k0']
  have c1 : W2.cell? ⟨gc, 0, none⟩ = some (.int .i64 5) := by simp [World.cell?, k1']
  have HB : Hid (Below w.heap.size w W2) := (b0.trans (b1.mono b0.size)).trans (b2.mono (by omega))
  have HRe : Hid (W2.heap[gr]? = some (.cells #[.int .i64 0, .int .i64 0] 62 (0, 0))) := k2
  have HMi : Hid (W2.rangeAt gc 7 [r0, r1, r2, r3, .int .i64 rw, r5, r6, r7, r8, r9, r10, r11, r12, r13, r14, r15, r16, r17, r18, r19]) := cmd_mid k1'
  have hC := mhear_none (h.new HB.out) r0 r1 r2 r3 r5 r6 r7 r8 r9 r10 r11 r12 r13 r14 r15 r16 r17 r18 r19 rw
  clear h b0 b1 b2 k0 k1 k2 k0' k1' s0 s1
  go_enter Tryz.func21, Tryz.ntmps21
  go_upto_region 1 with (fail)
  clear hW0 hW1 hW2 hgc hgr
  obtain ⟨g, hg⟩ : ∃ g, w.heap.size = g := ⟨_, rfl⟩
  have HG : Hid (w.heap.size = g) := hg
  rw [hg] at c0 ⊢
  clear hg
  go_wp2_with (first
    | (refine wpList_load_mid rfl 57 _ rfl gc 7 rfl [r0, r1, r2, r3, .int .i64 rw, r5, r6, r7, r8, r9, r10, r11, r12, r13, r14, r15, r16, r17, r18, r19] _ HMi.out Tryz.underlying57 rfl size_repN ?_)
    | (go_at_call 75; refine hC.mono ?_; rintro r w4 ⟨rfl, hb4⟩; have HB4 : Hid (Below W2.heap.size W2 w4) := hb4; have HRe4 : Hid (w4.heap[gr]? = some (.cells #[.int .i64 0, .int .i64 0] 62 (0, 0))) := (hb4.block gr (ma_lt HRe.out)).trans HRe.out; clear hb4)
    | (refine wpList_store_row rfl 62 _ _ rfl gr #[.int .i64 0, .int .i64 0] rfl rfl 62 #[.int .i64 0, .int .i64 0] HRe4.out size_reply rfl (by simp [Value.oneCell']) ?_))
  refine bodyPost_ret (v := .tuple #[.agg #[.int .i64 0, .int .i64 0], .int .i64 0]) (res_ctJ Tryz.results21 _ _ gr 62 _ (0, 0) _ rfl (setRow_heap _ _ _ _ _ _ HRe4.out) Tryz.underlying62 rfl size_reply) rfl ?_
  have h1 := HB.out.trans (HB4.out.mono HB.out.size)
  exact ⟨rfl, h1.trans ((ap_setRow w4 gr #[.int .i64 0, .int .i64 0]).below h1.size (fun k hk => by have := HGr.out; omega))⟩
set_option maxRecDepth 100000 in
set_option maxHeartbeats 2000000 in
theorem napply_bad {w : World} {p : Nat} {k : Int} (hk : k < 1 ∨ 5 < k) (q1 q2 q3 q4 q5 q6 r0 r1 r2 r3 r4 r5 r6 r7 r8 r9 r10 r11 r12 r13 r14 r15 r16 r17 r18 r19 : Value) :
    Calls Tryz.prog 21 #[.pointer (some ⟨p, 0, none⟩), .agg #[.int .i64 k, q1, q2, q3, q4, q5, q6, r0, r1, r2, r3, r4, r5, r6, r7, r8, r9, r10, r11, r12, r13, r14, r15, r16, r17, r18, r19]] w fun r w' => r = .returned (.tuple #[.agg #[.int .i64 0, .int .i64 0], .int .i64 172]) ∧ Below w.heap.size w w' := by
  obtain ⟨W0, hW0⟩ : ∃ W0, w.alloc (.cells #[.pointer (some ⟨p, 0, none⟩)] 60) = W0 := ⟨_, rfl⟩
  obtain ⟨W1, hW1⟩ : ∃ W1, W0.alloc (.cells #[.int .i64 k, q1, q2, q3, q4, q5, q6, r0, r1, r2, r3, r4, r5, r6, r7, r8, r9, r10, r11, r12, r13, r14, r15, r16, r17, r18, r19] 59) = W1 := ⟨_, rfl⟩
  obtain ⟨W2, hW2⟩ : ∃ W2, W1.alloc (.cells #[.int .i64 0, .int .i64 0] 62) = W2 := ⟨_, rfl⟩
  have b0 : Below w.heap.size w W0 := by rw [← hW0]; exact ma_new _ _
  have b1 : Below W0.heap.size W0 W1 := by rw [← hW1]; exact ma_new _ _
  have b2 : Below W1.heap.size W1 W2 := by rw [← hW2]; exact ma_new _ _
  have s0 : W0.heap.size = w.heap.size + 1 := by rw [← hW0]; simp
  have s1 : W1.heap.size = w.heap.size + 2 := by rw [← hW1, World.size_alloc, s0]
  have k0 := heap_alloc_new w (.cells #[.pointer (some ⟨p, 0, none⟩)] 60)
  rw [hW0] at k0
  have k1 := heap_alloc_new W0 (.cells #[.int .i64 k, q1, q2, q3, q4, q5, q6, r0, r1, r2, r3, r4, r5, r6, r7, r8, r9, r10, r11, r12, r13, r14, r15, r16, r17, r18, r19] 59)
  rw [hW1] at k1
  have k2 := heap_alloc_new W1 (.cells #[.int .i64 0, .int .i64 0] 62)
  rw [hW2] at k2
  obtain ⟨gc, hgc⟩ : ∃ gc, W0.heap.size = gc := ⟨_, rfl⟩
  obtain ⟨gr, hgr⟩ : ∃ gr, W1.heap.size = gr := ⟨_, rfl⟩
  rw [hgc] at k1
  rw [hgr] at k2
  have HGr : Hid (gr = w.heap.size + 2) := by show _ = _; omega
  have k0' : W2.heap[w.heap.size]? = some (.cells #[.pointer (some ⟨p, 0, none⟩)] 60 (0, 0)) := (b2.block _ (by omega)).trans ((b1.block _ (by omega)).trans k0)
  have k1' : W2.heap[gc]? = some (.cells #[.int .i64 k, q1, q2, q3, q4, q5, q6, r0, r1, r2, r3, r4, r5, r6, r7, r8, r9, r10, r11, r12, r13, r14, r15, r16, r17, r18, r19] 59 (0, 0)) := (b2.block _ (by omega)).trans k1
  have c0 : W2.cell? ⟨w.heap.size, 0, none⟩ = some (.pointer (some ⟨p, 0, none⟩)) := by simp [World.cell?, k0']
  have c1 : W2.cell? ⟨gc, 0, none⟩ = some (.int .i64 k) := by simp [World.cell?, k1']
  have HB : Hid (Below w.heap.size w W2) := (b0.trans (b1.mono b0.size)).trans (b2.mono (by omega))
  have HRe : Hid (W2.heap[gr]? = some (.cells #[.int .i64 0, .int .i64 0] 62 (0, 0))) := k2
  clear b0 b1 b2 k0 k1 k2 k0' k1' s0 s1
  go_enter Tryz.func21, Tryz.ntmps21
  go_upto_region 1 with (fail)
  clear hW0 hW1 hW2 hgc hgr
  obtain ⟨g, hg⟩ : ∃ g, w.heap.size = g := ⟨_, rfl⟩
  have HG : Hid (w.heap.size = g) := hg
  rw [hg] at c0 ⊢
  clear hg
  have n1 : ¬ k = 1 := by omega
  have n2 : ¬ k = 2 := by omega
  have n3 : ¬ k = 3 := by omega
  have n4 : ¬ k = 4 := by omega
  have n5 : ¬ k = 5 := by omega
  clear hk
  go_wp2_with (refine wpList_store_row rfl 62 _ _ rfl gr #[.int .i64 0, .int .i64 0] rfl rfl 62 #[.int .i64 0, .int .i64 0] HRe.out size_reply rfl (by simp [Value.oneCell']) ?_)
  refine bodyPost_ret (v := .tuple #[.agg #[.int .i64 0, .int .i64 0], .int .i64 172]) (res_ctJ Tryz.results21 _ _ gr 62 _ (0, 0) _ rfl (setRow_heap _ _ _ _ _ _ HRe.out) Tryz.underlying62 rfl size_reply) rfl ?_
  exact ⟨rfl, HB.out.trans ((ap_setRow W2 gr #[.int .i64 0, .int .i64 0]).below HB.out.size (fun k hk => by have := HGr.out; omega))⟩
/-- No course is there. -/
def NoK (w : World) (p : Nat) : Prop := ∃ ax mb js ep M, MaBox w p ax mb js ep (.pointer none) M
theorem napply_all {w : World} {p : Nat} {k a b x y z rw : Int} {s : ByteArray} (h : MaBox w p (.pointer none) none (.slice none 0 0) 0 (.pointer none) []) (hk : 1 ≤ k ∧ k ≤ 5) (hb : b ≤ 9223372036854775807) (hs : s.size ≤ maxLen) (hy : W6 y) (hz : W6 z) (r0 r1 r2 r3 r5 r6 r7 r8 r9 r10 r11 r12 r13 r14 r15 r16 r17 r18 r19 : Value) :
    Calls Tryz.prog 21 #[.pointer (some ⟨p, 0, none⟩), .agg #[.int .i64 k, .int .i64 a, .int .i64 b, .string s, .int .i64 x, .int .i64 y, .int .i64 z, r0, r1, r2, r3, .int .i64 rw, r5, r6, r7, r8, r9, r10, r11, r12, r13, r14, r15, r16, r17, r18, r19]] w fun r w' => (∃ a b er : Int, r = .returned (.tuple #[.agg #[.int .i64 a, .int .i64 b], .int .i64 er])) ∧ NoK w' p ∧ Fr w w' (fun k => k = p) := by
  have hj : ∀ (r : Ending) (w' : World) (M : List Pz), (r = .returned (.tuple #[.agg #[.int .i64 0, .int .i64 0], .int .i64 0]) ∧ PoJ w w' p (.pointer none) none 0 M) → (∃ a b er : Int, r = .returned (.tuple #[.agg #[.int .i64 a, .int .i64 b], .int .i64 er])) ∧ NoK w' p ∧ Fr w w' (fun k => k = p) := fun r w' M ⟨h1, mb', h2, h3, _⟩ => ⟨⟨_, _, _, h1⟩, ⟨_, _, _, _, _, h2⟩, h3.mono (fun k _ hk => by
    rcases hk with hk | hk
    · exact hk
    · cases hk)⟩
  by_cases h1 : k = 1
  · subst h1
    refine (napply_submit hs h hb _ _ _ _ _ _ _ _ _ _ _ _ _ _ _ _ _ _ _ _ _ _ _).mono ?_
    rintro r w' ⟨h1, ax', ⟨js, hM⟩, hF⟩
    exact ⟨h1, ⟨_, _, _, _, _, hM⟩, hF⟩
  · by_cases h2 : k = 2
    · subst h2
      refine (napply_cancel h hb _ _ _ _ _ _ _ _ _ _ _ _ _ _ _ _ _ _ _ _ _ _ _).mono ?_
      rintro r w' ⟨h1, ax', ⟨js, hM⟩, hF⟩
      exact ⟨h1, ⟨_, _, _, _, _, hM⟩, hF⟩
    · by_cases h3 : k = 3
      · subst h3
        exact (mapply_join h (by decide) hy hz _ _ _ _ _ _ _ _ _ _ _ _ _ _ _ _ _ _ _ _ _ _ _ _).mono (fun r w' hh => hj r w' _ hh)
      · by_cases h4 : k = 4
        · subst h4
          exact (mapply_lose h hy _ _ _ _ _ _ _ _ _ _ _ _ _ _ _ _ _ _ _ _ _ _ _ _).mono (fun r w' hh => hj r w' _ hh)
        · obtain rfl : k = 5 := by omega
          refine (napply_report h _ _ _ _ _ _ _ _ _ _ _ _ _ _ _ _ _ _ _ _ _ _ _ _ _ rw).mono ?_
          rintro r w' ⟨h1, hB⟩
          exact ⟨⟨_, _, _, h1⟩, ⟨_, _, _, _, _, h.new hB⟩, Fr.ofBelow hB _⟩
end Go.Proofs.YthkfbaoeimjgaaaGreat
end
