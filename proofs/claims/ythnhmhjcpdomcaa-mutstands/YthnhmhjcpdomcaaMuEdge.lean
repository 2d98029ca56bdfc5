/- An edge goes, an edge comes: in a vertex that lies in a row. -/
import Derived.Test.YthnhmhjcpdomcaaMuG
import Derived.Test.YthnhmhjcpdomcaaMuFind
import Derived.Deep.RegionHeld
import Derived.Deep.RegionHeldLaw
import Derived.Deep.Cut
import Derived.Deep.DeepCutAuto
namespace Go.Proofs.Ythnhmhjcpdomcaa
open Go.RowKit
theorem found_lt {l : List Int} {x : Int} (h : foundB l x = true) : findN l x < l.length := by
  unfold foundB at h
  rw [beq_iff_eq] at h
  exact (List.getElem?_eq_some_iff.1 h).1
theorem delE_at {w : World} {base : Nat} {v : Value} {n : Nat} {xs : List Value} (h : w.ownsRow base 81 2 v n xs) (h1 : ∀ u ∈ xs, u.oneCell' = true) (i : Nat) (hi : i < n) {pi : Int} (hpi : pi = i) :
    Calls Try.prog 100 #[v, .int .i64 pi, .int .i64 (pi + 1)] w fun e w' => ∃ v', e = .returned v' ∧ v'.ownBlock = v.ownBlock ∧ w'.ownsRow base 81 2 v' (n - 1) (xs.take (i * 2) ++ xs.drop ((i + 1) * 2)) ∧ Fr w w' (fun k => v.ownBlock = some k) := by subst hpi; exact delE_any h h1 i (i + 1) rfl hi
theorem delV_at {w : World} {base : Nat} {v : Value} {n : Nat} {xs : List Value} (h : w.ownsRow base 84 3 v n xs) (h1 : ∀ u ∈ xs, u.oneCell' = true) (i : Nat) (hi : i < n) {pi : Int} (hpi : pi = i) :
    Calls Try.prog 73 #[v, .int .i64 pi, .int .i64 (pi + 1)] w fun e w' => ∃ v', e = .returned v' ∧ v'.ownBlock = v.ownBlock ∧ w'.ownsRow base 84 3 v' (n - 1) (xs.take (i * 3) ++ xs.drop ((i + 1) * 3)) ∧ Fr w w' (fun k => v.ownBlock = some k) := by subst hpi; exact delV_any h h1 i (i + 1) rfl hi
/-- A cell of another block. -/
theorem cell_fr {w w' : World} {S : Nat → Prop} (f : Fr w w' S) {b o : Nat} {u : Value} (hn : ¬ S b) (h : w.cell? ⟨b, o, none⟩ = some u) (hz : w.frozen? ⟨b, o, none⟩ = false) : w'.cell? ⟨b, o, none⟩ = some u ∧ w'.frozen? ⟨b, o, none⟩ = false :=
  ⟨fr_cell f hn h, (World.frozen?_of_block (a := ⟨b, o, none⟩) (f.block b (lt_cell h) hn)).trans hz⟩
theorem remedge_no {w : World} {base rb q : Nat} {ev : Value} {es : List Ed} {t : Int} (hc : w.cell? ⟨rb, q + 2, none⟩ = some ev) (ho : w.ownsRow base 81 2 ev es.length (ecs es)) (hl : es.length ≤ 1073741824) (hr : Rise (ends es)) (hf : foundB (ends es) t = false) :
    Calls Try.prog 72 #[.pointer (some ⟨rb, q, none⟩), .int .i64 t] w fun e w' => e = .returned (.bool false) ∧ Below w.heap.size w w' := by
  obtain ⟨eo, m, ec, rfl⟩ := own_any ho
  obtain ⟨rfl, hE⟩ := own_eds ho
  have HF := findedge_any (w := w) ec t hE hl hr
  rw [hf] at HF
  generalize findN (ends es) t = p at HF
  clear ho hr hf hE
  go_enter Try.func72, Try.ntmps72
  go_wp2_with (go_at_call 99; refine HF.mono ?_; rintro e w1 ⟨rfl, hb⟩)
  go_ret
  exact ⟨rfl, hb⟩
set_option maxRecDepth 100000 in
set_option maxHeartbeats 1000000 in
theorem remedge_yes {w : World} {base rb q : Nat} {ev : Value} {es : List Ed} {t : Int} (hc : w.cell? ⟨rb, q + 2, none⟩ = some ev) (hz : w.frozen? ⟨rb, q + 2, none⟩ = false) (ho : w.ownsRow base 81 2 ev es.length (ecs es)) (hne : ev.ownBlock ≠ some rb) (hl : es.length ≤ 1073741824) (hr : Rise (ends es)) (hf : foundB (ends es) t = true) :
    Calls Try.prog 72 #[.pointer (some ⟨rb, q, none⟩), .int .i64 t] w fun e w' => ∃ ev' W, e = .returned (.bool true) ∧ w' = W.setCell ⟨rb, q + 2, none⟩ ev' ∧ ev'.ownBlock = ev.ownBlock ∧ Fr w W (fun k => ev.ownBlock = some k) ∧
      W.ownsRow base 81 2 ev' (es.take (findN (ends es) t) ++ es.drop (findN (ends es) t + 1)).length (ecs (es.take (findN (ends es) t) ++ es.drop (findN (ends es) t + 1))) := by
  have hp := found_lt hf
  rw [ends_len] at hp
  obtain ⟨eo, m, ec, rfl⟩ := own_any ho
  obtain ⟨rfl, hE⟩ := own_eds ho
  have HF := findedge_any (w := w) ec t hE hl hr
  rw [hf] at HF
  generalize findN (ends es) t = p at HF hp ⊢
  have hlen : (es.take p ++ es.drop (p + 1)).length = es.length - 1 := by simp; omega
  have hcs : ecs (es.take p ++ es.drop (p + 1)) = (ecs es).take (p * 2) ++ (ecs es).drop ((p + 1) * 2) := by rw [ecs_app, ecs_take, ecs_drop]
  rw [hlen, hcs]
  have HOw : Hid _ := ho
  have HC : Hid _ := hc
  have HZ : Hid _ := hz
  have HN : Hid _ := hne
  obtain ⟨pi, hpi⟩ : ∃ pi : Int, pi = p := ⟨_, rfl⟩
  rw [← hpi] at HF
  have hp1 : 0 ≤ pi := by omega
  have hp2 : pi ≤ 1073741824 := by omega
  have HPi : Hid (pi = p) := hpi
  have HP : Hid (p < es.length) := hp
  clear hp hpi
  clear ho hr hf hE hlen hcs hz hne
  go_enter Try.func72, Try.ntmps72
  go_wp2_with (first
    | (go_at_call 99; refine HF.mono ?_; rintro e w1 ⟨rfl, hb⟩; have h1 := cell_fr (Fr.ofBelow hb (fun _ => False)) (fun h => h) HC.out HZ.out; have c1 := h1.1; have HB : Hid _ := hb)
    | (go_at_call 100; refine (delE_at (own_new HOw.out HB.out) (ecs_one es) p HP.out HPi.out).mono ?_; rintro e w2 ⟨v', rfl, hv', ho', hf'⟩; obtain ⟨ao', m', c', rfl⟩ := own_any ho'; have h2 := cell_fr hf' (fun e => HN.out e) h1.1 h1.2; have c2 := h2.1; have z2 := h2.2; have HO : Hid _ := ho'; have HFr : Hid _ := hf'; have HV : Hid _ := hv'; clear ho' hf' hv'))
  go_ret
  exact ⟨_, _, rfl, rfl, HV.out, (Fr.ofBelow HB.out _).trans HFr.out (fun _ _ h => h), HO.out⟩
theorem insE_new {w : World} {base : Nat} {v : Value} {n : Nat} {xs : List Value} (t x : Int) (h : w.ownsRow base 81 2 v n xs) (h1 : ∀ u ∈ xs, u.oneCell' = true) (i : Nat) (hi : i ≤ n) (hbase : base ≤ w.heap.size) (hbig : n ≤ 1073741824) :
    Calls Try.prog 103 #[v, .int .i64 i, .slice (some ⟨w.heap.size, 0, none⟩) 1 1] (w.alloc (.cells #[.int .i64 t, .int .i64 x] 81)).drew fun e w' =>
      ∃ v', e = .returned v' ∧ (v'.ownBlock = v.ownBlock ∨ ∀ k, v'.ownBlock = some k → w.heap.size ≤ k) ∧ w'.ownsRow base 81 2 v' (n + 1) (xs.take (i * 2) ++ [.int .i64 t, .int .i64 x] ++ xs.drop (i * 2)) ∧ Fr w w' (fun k => v.ownBlock = some k) := by
  have ho := own_new h (one_new w (.cells #[.int .i64 t, .int .i64 x] 81))
  refine (insE_any (w := (w.alloc (.cells #[.int .i64 t, .int .i64 x] 81)).drew) (vb := w.heap.size) (ys := [.int .i64 t, .int .i64 x]) ho h1 i hi (by show base ≤ (w.alloc _).heap.size; rw [World.size_alloc]; omega) (by omega) (heap_alloc_new w _) rfl (by intro u hu; simp at hu; rcases hu with rfl | rfl <;> rfl) (fun e => by have := (h.lt _ e).2; omega)).mono ?_
  rintro e w' ⟨v', rfl, hv, ho', hf⟩
  refine ⟨v', rfl, hv.imp id (fun e k hk => ?_), ho', (((Fr.alloc w (.cells #[.int .i64 t, .int .i64 x] 81) (fun _ => False)).trans (Fr.drew _ (fun _ => False)) (fun _ _ h => h)).mono (fun _ _ h => h.elim)).trans hf (fun _ _ h => h)⟩
  rw [e] at hk
  have := Option.some.inj hk
  have e2 : (w.alloc (.cells #[.int .i64 t, .int .i64 x] 81)).drew.heap.size = w.heap.size + 1 := World.size_alloc _ _
  omega
theorem two_kept {W w1 : World} (hb : Below W.drew.heap.size W.drew w1) {a b c d : Nat} {u v : Value} (h : W.cell? ⟨a, b, none⟩ = some u ∧ W.cell? ⟨c, d, none⟩ = some v) : w1.cell? ⟨a, b, none⟩ = some u ∧ w1.cell? ⟨c, d, none⟩ = some v :=
  ⟨(hb.cell (p := ⟨a, b, none⟩) (lt_cell h.1)).trans h.1, (hb.cell (p := ⟨c, d, none⟩) (lt_cell h.2)).trans h.2⟩
/-- An edge comes: it is there already. -/
theorem addedge_no {w : World} {base rb q : Nat} {ev : Value} {es : List Ed} {t x : Int} (hc : w.cell? ⟨rb, q + 2, none⟩ = some ev) (ho : w.ownsRow base 81 2 ev es.length (ecs es)) (hl : es.length ≤ 1073741824) (hr : Rise (ends es)) (hf : foundB (ends es) t = true) :
    Calls Try.prog 75 #[.pointer (some ⟨rb, q, none⟩), .agg #[.int .i64 t, .int .i64 x]] w fun e w' => e = .returned (.bool false) ∧ Below w.heap.size w w' := by
  obtain ⟨eo, m, ec, rfl⟩ := own_any ho
  obtain ⟨rfl, hE⟩ := own_eds ho
  obtain ⟨W0, hW0⟩ : ∃ W0, w.alloc (.cells #[.int .i64 t, .int .i64 x] 81) = W0 := ⟨_, rfl⟩
  have hb0 : Below w.heap.size w W0 := by rw [← hW0]; exact one_new _ _
  have hq0 : W0.heap[w.heap.size]? = some (.cells #[.int .i64 t, .int .i64 x] 81 (0, 0)) := by rw [← hW0]; exact heap_alloc_new _ _
  have hc0 := (hb0.cell (p := ⟨rb, q + 2, none⟩) (lt_cell hc)).trans hc
  have HF := fun W (hb : Below W0.heap.size W0 W) => findedge_any (w := W) ec t ((hE.new hb0).new hb) hl hr
  rw [hf] at HF
  generalize findN (ends es) t = p at HF
  obtain ⟨k0, k1⟩ : W0.cell? ⟨w.heap.size, 0, none⟩ = some (.int .i64 t) ∧ W0.cell? ⟨w.heap.size, 1, none⟩ = some (.int .i64 x) := by constructor <;> simp [World.cell?, hq0]
  have x0 : W0.cell? ⟨rb, q + 2, none⟩ = some (.slice eo es.length ec) ∧ W0.cell? ⟨w.heap.size, 0, none⟩ = some (.int .i64 t) := ⟨hc0, k0⟩
  clear ho hr hf hE hc
  go_enter Try.func75, Try.ntmps75
  go_upto_region 1 with (fail)
  go_region_held (fun w' => w'.cell? ⟨rb, q + 2, none⟩ = some (.slice eo es.length ec) ∧ w'.cell? ⟨w.heap.size, 0, none⟩ = some (.int .i64 t)) (first | exact x1 | exact x0)
    (first | (go_at_call 99; refine (HF _ ((Below.refl _ _).drew)).mono ?_; rintro e w1 ⟨rfl, hb⟩; have x1 := two_kept hb x0))
  go_wp2
  go_ret
  exact ⟨rfl, hb0.trans (((Below.refl _ _).drew).trans hb |>.mono hb0.size)⟩
/-- An edge comes: it is not there. -/
theorem addedge_yes {w : World} {base rb q : Nat} {ev : Value} {es : List Ed} {t x : Int} (hc : w.cell? ⟨rb, q + 2, none⟩ = some ev) (ho : w.ownsRow base 81 2 ev es.length (ecs es)) (hl : es.length ≤ 1073741824) (hr : Rise (ends es)) (hf : foundB (ends es) t = false) (hz : w.frozen? ⟨rb, q + 2, none⟩ = false) (hne : ev.ownBlock ≠ some rb) (hbase : base ≤ w.heap.size) :
    Calls Try.prog 75 #[.pointer (some ⟨rb, q, none⟩), .agg #[.int .i64 t, .int .i64 x]] w fun e w' => ∃ ev' W, e = .returned (.bool true) ∧ w' = W.setCell ⟨rb, q + 2, none⟩ ev' ∧ (ev'.ownBlock = ev.ownBlock ∨ ∀ k, ev'.ownBlock = some k → w.heap.size ≤ k) ∧ Fr w W (fun k => ev.ownBlock = some k) ∧
      W.ownsRow base 81 2 ev' (es.take (findN (ends es) t) ++ ⟨t, x⟩ :: es.drop (findN (ends es) t)).length (ecs (es.take (findN (ends es) t) ++ ⟨t, x⟩ :: es.drop (findN (ends es) t))) := by
  have hp := findN_le (ends es) t
  rw [ends_len] at hp
  obtain ⟨eo, m, ec, rfl⟩ := own_any ho
  obtain ⟨rfl, hE⟩ := own_eds ho
  obtain ⟨W0, hW0⟩ : ∃ W0, w.alloc (.cells #[.int .i64 t, .int .i64 x] 81) = W0 := ⟨_, rfl⟩
  have hb0 : Below w.heap.size w W0 := by rw [← hW0]; exact one_new _ _
  have hq0 : W0.heap[w.heap.size]? = some (.cells #[.int .i64 t, .int .i64 x] 81 (0, 0)) := by rw [← hW0]; exact heap_alloc_new _ _
  have hc0 := (hb0.cell (p := ⟨rb, q + 2, none⟩) (lt_cell hc)).trans hc
  have HF := fun W (hb : Below W0.heap.size W0 W) => findedge_any (w := W) ec t ((hE.new hb0).new hb) hl hr
  rw [hf] at HF
  generalize findN (ends es) t = p at HF hp ⊢
  have hlen : (es.take p ++ (⟨t, x⟩ : Ed) :: es.drop p).length = es.length + 1 := by simp; omega
  have hcs : ecs (es.take p ++ (⟨t, x⟩ : Ed) :: es.drop p) = (ecs es).take (p * 2) ++ [.int .i64 t, .int .i64 x] ++ (ecs es).drop (p * 2) := by rw [ecs_take, ecs_drop, ecs_app]; simp [ecs]
  rw [hlen, hcs]
  have HO : Hid _ := own_new ho hb0
  have HC : Hid _ := cell_fr (Fr.ofBelow hb0 (fun _ => False)) (fun h => h) hc hz
  have HN : Hid _ := hne
  have HL : Hid (base ≤ w.heap.size) := hbase
  have HS : Hid (W0.heap.size = w.heap.size + 1) := by show _ = _; rw [← hW0, World.size_alloc]
  have HQ : Hid _ := hq0
  have HLt : Hid (∀ k, (Value.slice eo es.length ec).ownBlock = some k → k < w.heap.size) := fun k hk => (ho.lt k hk).2
  obtain ⟨k0, k1⟩ : W0.cell? ⟨w.heap.size, 0, none⟩ = some (.int .i64 t) ∧ W0.cell? ⟨w.heap.size, 1, none⟩ = some (.int .i64 x) := by constructor <;> simp [World.cell?, hq0]
  have x0 : W0.cell? ⟨rb, q + 2, none⟩ = some (.slice eo es.length ec) ∧ W0.cell? ⟨w.heap.size, 0, none⟩ = some (.int .i64 t) := ⟨hc0, k0⟩
  clear ho hr hf hE hc hz hne hbase hlen hcs hq0
  go_enter Try.func75, Try.ntmps75
  go_upto_region 1 with (fail)
  go_region_held (fun w' => w'.cell? ⟨rb, q + 2, none⟩ = some (.slice eo es.length ec) ∧ w'.cell? ⟨w.heap.size, 0, none⟩ = some (.int .i64 t)) (first | exact x1 | exact x0)
    (first | (go_at_call 99; refine (HF _ ((Below.refl _ _).drew)).mono ?_; rintro e w1 ⟨rfl, hb⟩; have x1 := two_kept hb x0))
  have HB : Hid (Below w.heap.size w w1) := hb0.trans (((Below.refl _ _).drew).trans hb |>.mono hb0.size)
  have hs1 : w.heap.size + 1 ≤ w1.heap.size := by have := hb.size; have e := HS.out; have e2 : W0.drew.heap.size = W0.heap.size := rfl; omega
  have hq1 : w1.heap[w.heap.size]? = some (.cells #[.int .i64 t, .int .i64 x] 81 (0, 0)) := (hb.block _ (by have e := HS.out; have e2 : W0.drew.heap.size = W0.heap.size := rfl; omega)).trans HQ.out
  have hc1 := cell_fr (Fr.ofBelow hb (fun _ => False)) (fun h => h) HC.out.1 HC.out.2
  have c1 := hc1.1
  obtain ⟨d0, d1⟩ : w1.cell? ⟨w.heap.size, 0, none⟩ = some (.int .i64 t) ∧ w1.cell? ⟨w.heap.size, 1, none⟩ = some (.int .i64 x) := by constructor <;> simp [World.cell?, hq1]
  have ho1 := own_new (w := W0.drew) HO.out hb
  clear hq1 hb x0 x1 k0 k1 hc0 HF hb0 hW0
  have HO1 : Hid _ := ho1
  have HC1 : Hid _ := hc1
  have hz1 := hc1.2
  have hrb1 := lt_cell c1
  have hrb2 := lt_cell d0
  have HS1 : Hid (w.heap.size + 1 ≤ w1.heap.size) := hs1
  clear ho1 hc1
  go_upto_region 3 with (fail)
  go_region_law (first | (go_simp; go_at_call 103; refine (insE_new t x HO1.out (ecs_one es) p hp (by have := HL.out; have := HS1.out; omega) hl).mono ?_; rintro e w2 ⟨v', rfl, hv', ho', hf'⟩; obtain ⟨ao', m', c', rfl⟩ := own_any ho'; have h2 := cell_fr hf' (fun e => HN.out e) HC1.out.1 HC1.out.2; have c2 := h2.1; have z2 := h2.2; have HO2 : Hid _ := ho'; have HFr : Hid _ := hf'; have HV : Hid _ := hv'; clear ho' hf' hv'))
  all_goals
    go_wp2
    go_ret
    exact ⟨_, _, rfl, rfl, HV.out.imp id (fun h k hk => by have := h k hk; have := HS1.out; omega), (Fr.ofBelow HB.out _).trans HFr.out (fun _ _ h => h), HO2.out⟩
end Go.Proofs.Ythnhmhjcpdomcaa
