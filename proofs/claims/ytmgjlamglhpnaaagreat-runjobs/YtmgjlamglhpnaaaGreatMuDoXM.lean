/- An edge goes, an edge comes: in a vertex that lies in a row. -/
import Derived.Test.YtmgjlamglhpnaaaGreatMuFindM
import Derived.Deep.RegionHeld
import Derived.Deep.RegionHeldLaw
import Derived.Deep.Cut
import Derived.Deep.DeepCutAuto
import Derived.Deep.QuietTactic
import Derived.BigQuiet
namespace Go.Proofs.YtmgjlamglhpnaaaGreat
set_option maxRecDepth 100000
open Go.RowKit
theorem found_lt {l : List Int} {x : Int} (h : foundB l x = true) : findN l x < l.length := by
 unfold foundB at h
 rw [beq_iff_eq] at h
 exact (List.getElem?_eq_some_iff.1 h).1
theorem delE_at {w : World} {base : Nat} {v : Value} {n : Nat} {xs : List Value} (h : w.ownsRow base 62 2 v n xs) (h1 : ∀ u ∈ xs, u.oneCell' = true) (i : Nat) (hi : i < n) {pi : Int} (hpi : pi = i) :
  Calls Tryz.prog 175 #[v, .int .i64 pi, .int .i64 (pi + 1)] w fun e w' => ∃ v', e = .returned v' ∧ v'.ownBlock = v.ownBlock ∧ w'.ownsRow base 62 2 v' (n - 1) (xs.take (i * 2) ++ xs.drop ((i + 1) * 2)) ∧ Fr w w' (fun k => v.ownBlock = some k) := by subst hpi; exact delE_any h h1 i (i + 1) rfl hi
theorem delV_at {w : World} {base : Nat} {v : Value} {n : Nat} {xs : List Value} (h : w.ownsRow base 65 3 v n xs) (h1 : ∀ u ∈ xs, u.oneCell' = true) (i : Nat) (hi : i < n) {pi : Int} (hpi : pi = i) :
  Calls Tryz.prog 142 #[v, .int .i64 pi, .int .i64 (pi + 1)] w fun e w' => ∃ v', e = .returned v' ∧ v'.ownBlock = v.ownBlock ∧ w'.ownsRow base 65 3 v' (n - 1) (xs.take (i * 3) ++ xs.drop ((i + 1) * 3)) ∧ Fr w w' (fun k => v.ownBlock = some k) := by subst hpi; exact delV_any h h1 i (i + 1) rfl hi
theorem cell_fr {w w' : World} {S : Nat → Prop} (f : Fr w w' S) {b o : Nat} {u : Value} (hn : ¬ S b) (h : w.cell? ⟨b, o, none⟩ = some u) (hz : w.frozen? ⟨b, o, none⟩ = false) : w'.cell? ⟨b, o, none⟩ = some u ∧ w'.frozen? ⟨b, o, none⟩ = false :=
 ⟨fr_cell f hn h, (World.frozen?_of_block (a := ⟨b, o, none⟩) (f.block b (lt_cell h) hn)).trans hz⟩
theorem remedge_no {w : World} {base rb q : Nat} {ev : Value} {es : List Ed} {t : Int} (hc : w.cell? ⟨rb, q + 2, none⟩ = some ev) (ho : w.ownsRow base 62 2 ev es.length (ecs es)) (hl : es.length ≤ 1073741824) (hr : Rise (ends es)) (hf : foundB (ends es) t = false) :
  Calls Tryz.prog 141 #[.pointer (some ⟨rb, q, none⟩), .int .i64 t] w fun e w' => e = .returned (.bool false) ∧ Below w.heap.size w w' := by
 obtain ⟨eo, m, ec, rfl⟩ := own_any ho
 obtain ⟨rfl, hE⟩ := own_eds ho
 have HF := findedge_any (w := w) ec t hE hl hr
 rw [hf] at HF
 generalize findN (ends es) t = p at HF
 clear ho hr hf hE
 go_enter Tryz.func141, Tryz.ntmps141
 go_wp2_with (go_at_call 174; refine HF.mono ?_; rintro e w1 ⟨rfl, hb⟩)
 go_ret
 exact ⟨rfl, hb⟩
set_option maxHeartbeats 1000000 in
theorem remedge_yes {w : World} {base rb q : Nat} {ev : Value} {es : List Ed} {t : Int} (hc : w.cell? ⟨rb, q + 2, none⟩ = some ev) (hz : w.frozen? ⟨rb, q + 2, none⟩ = false) (ho : w.ownsRow base 62 2 ev es.length (ecs es)) (hne : ev.ownBlock ≠ some rb) (hl : es.length ≤ 1073741824) (hr : Rise (ends es)) (hf : foundB (ends es) t = true) :
  Calls Tryz.prog 141 #[.pointer (some ⟨rb, q, none⟩), .int .i64 t] w fun e w' => ∃ ev' W, e = .returned (.bool true) ∧ w' = W.setCell ⟨rb, q + 2, none⟩ ev' ∧ ev'.ownBlock = ev.ownBlock ∧ Fr w W (fun k => ev.ownBlock = some k) ∧
   W.ownsRow base 62 2 ev' (es.take (findN (ends es) t) ++ es.drop (findN (ends es) t + 1)).length (ecs (es.take (findN (ends es) t) ++ es.drop (findN (ends es) t + 1))) := by
 have hp := found_lt hf
 rw [ends_len] at hp
 obtain ⟨eo, m, ec, rfl⟩ := own_any ho
 obtain ⟨rfl, hE⟩ := own_eds ho
 have HF := findedge_any (w := w) ec t hE hl hr
 rw [hf] at HF
 generalize findN (ends es) t = p at HF hp ⊢
 have hlen : (es.take p ++ es.drop (p + 1)).length = es.length - 1 := by simp; omega
 have hcs : ecs (es.take p ++ es.drop (p + 1)) = (ecs es).take (p * 2) ++ (ecs es).drop ((p + 1) * 2) := by rw [ecs_app, ecs_take, ecs_drop]
 rw [hlen, hcs]
 have HOw : Hid _ := ho
 have HC : Hid _ := hc
 have HZ : Hid _ := hz
 have HN : Hid _ := hne
 obtain ⟨pi, hpi⟩ : ∃ pi : Int, pi = p := ⟨_, rfl⟩
 rw [← hpi] at HF
 have hp1 : 0 ≤ pi := by omega
 have hp2 : pi ≤ 1073741824 := by omega
 have HPi : Hid (pi = p) := hpi
 have HP : Hid (p < es.length) := hp
 clear hp hpi
 clear ho hr hf hE hlen hcs hz hne
 go_enter Tryz.func141, Tryz.ntmps141
 go_wp2_with (first
  | (go_at_call 174; refine HF.mono ?_; rintro e w1 ⟨rfl, hb⟩; have h1 := cell_fr (Fr.ofBelow hb (fun _ => False)) (fun h => h) HC.out HZ.out; have c1 := h1.1; have HB : Hid _ := hb)
  | (go_at_call 175; refine (delE_at (own_new HOw.out HB.out) (ecs_one es) p HP.out HPi.out).mono ?_; rintro e w2 ⟨v', rfl, hv', ho', hf'⟩; obtain ⟨ao', m', c', rfl⟩ := own_any ho'; have h2 := cell_fr hf' (fun e => HN.out e) h1.1 h1.2; have c2 := h2.1; have z2 := h2.2; have HO : Hid _ := ho'; have HFr : Hid _ := hf'; have HV : Hid _ := hv'; clear ho' hf' hv'))
 go_ret
 exact ⟨_, _, rfl, rfl, HV.out, (Fr.ofBelow HB.out _).trans HFr.out (fun _ _ h => h), HO.out⟩
theorem insE_new {w : World} {base : Nat} {v : Value} {n : Nat} {xs : List Value} (t x : Int) (h : w.ownsRow base 62 2 v n xs) (h1 : ∀ u ∈ xs, u.oneCell' = true) (i : Nat) (hi : i ≤ n) (hbase : base ≤ w.heap.size) (hbig : n ≤ 1073741824) :
  Calls Tryz.prog 178 #[v, .int .i64 i, .slice (some ⟨w.heap.size, 0, none⟩) 1 1] (w.alloc (.cells #[.int .i64 t, .int .i64 x] 62)).drew fun e w' =>
   ∃ v', e = .returned v' ∧ (v'.ownBlock = v.ownBlock ∨ ∀ k, v'.ownBlock = some k → w.heap.size ≤ k) ∧ w'.ownsRow base 62 2 v' (n + 1) (xs.take (i * 2) ++ [.int .i64 t, .int .i64 x] ++ xs.drop (i * 2)) ∧ Fr w w' (fun k => v.ownBlock = some k) := by
 have ho := own_new h (one_new w (.cells #[.int .i64 t, .int .i64 x] 62))
 refine (insE_any (w := (w.alloc (.cells #[.int .i64 t, .int .i64 x] 62)).drew) (vb := w.heap.size) (ys := [.int .i64 t, .int .i64 x]) ho h1 i hi (by show base ≤ (w.alloc _).heap.size; rw [World.size_alloc]; omega) (by omega) (heap_alloc_new w _) rfl (by intro u hu; simp at hu; rcases hu with rfl | rfl <;> rfl) (fun e => by have := (h.lt _ e).2; omega)).mono ?_
 rintro e w' ⟨v', rfl, hv, ho', hf⟩
 refine ⟨v', rfl, hv.imp id (fun e k hk => ?_), ho', (((Fr.alloc w (.cells #[.int .i64 t, .int .i64 x] 62) (fun _ => False)).trans (Fr.drew _ (fun _ => False)) (fun _ _ h => h)).mono (fun _ _ h => h.elim)).trans hf (fun _ _ h => h)⟩
 rw [e] at hk
 have := Option.some.inj hk
 have e2 : (w.alloc (.cells #[.int .i64 t, .int .i64 x] 62)).drew.heap.size = w.heap.size + 1 := World.size_alloc _ _
 omega
theorem two_kept {W w1 : World} (hb : Below W.drew.heap.size W.drew w1) {a b c d : Nat} {u v : Value} (h : W.cell? ⟨a, b, none⟩ = some u ∧ W.cell? ⟨c, d, none⟩ = some v) : w1.cell? ⟨a, b, none⟩ = some u ∧ w1.cell? ⟨c, d, none⟩ = some v :=
 ⟨(hb.cell (p := ⟨a, b, none⟩) (lt_cell h.1)).trans h.1, (hb.cell (p := ⟨c, d, none⟩) (lt_cell h.2)).trans h.2⟩
theorem addedge_no {w : World} {base rb q : Nat} {ev : Value} {es : List Ed} {t x : Int} (hc : w.cell? ⟨rb, q + 2, none⟩ = some ev) (ho : w.ownsRow base 62 2 ev es.length (ecs es)) (hl : es.length ≤ 1073741824) (hr : Rise (ends es)) (hf : foundB (ends es) t = true) :
  Calls Tryz.prog 144 #[.pointer (some ⟨rb, q, none⟩), .agg #[.int .i64 t, .int .i64 x]] w fun e w' => e = .returned (.bool false) ∧ Below w.heap.size w w' := by
 obtain ⟨eo, m, ec, rfl⟩ := own_any ho
 obtain ⟨rfl, hE⟩ := own_eds ho
 obtain ⟨W0, hW0⟩ : ∃ W0, w.alloc (.cells #[.int .i64 t, .int .i64 x] 62) = W0 := ⟨_, rfl⟩
 have hb0 : Below w.heap.size w W0 := by rw [← hW0]; exact one_new _ _
 have hq0 : W0.heap[w.heap.size]? = some (.cells #[.int .i64 t, .int .i64 x] 62 (0, 0)) := by rw [← hW0]; exact heap_alloc_new _ _
 have hc0 := (hb0.cell (p := ⟨rb, q + 2, none⟩) (lt_cell hc)).trans hc
 have HF := fun W (hb : Below W0.heap.size W0 W) => findedge_any (w := W) ec t ((hE.new hb0).new hb) hl hr
 rw [hf] at HF
 generalize findN (ends es) t = p at HF
 obtain ⟨k0, k1⟩ : W0.cell? ⟨w.heap.size, 0, none⟩ = some (.int .i64 t) ∧ W0.cell? ⟨w.heap.size, 1, none⟩ = some (.int .i64 x) := by constructor <;> simp [World.cell?, hq0]
 have x0 : W0.cell? ⟨rb, q + 2, none⟩ = some (.slice eo es.length ec) ∧ W0.cell? ⟨w.heap.size, 0, none⟩ = some (.int .i64 t) := ⟨hc0, k0⟩
 clear ho hr hf hE hc
 go_enter Tryz.func144, Tryz.ntmps144
 go_upto_region 1 with (fail)
 go_region_held (fun w' => w'.cell? ⟨rb, q + 2, none⟩ = some (.slice eo es.length ec) ∧ w'.cell? ⟨w.heap.size, 0, none⟩ = some (.int .i64 t)) (first | exact x1 | exact x0)
  (first | (go_at_call 174; refine (HF _ ((Below.refl _ _).drew)).mono ?_; rintro e w1 ⟨rfl, hb⟩; have x1 := two_kept hb x0))
 go_wp2
 go_ret
 exact ⟨rfl, hb0.trans (((Below.refl _ _).drew).trans hb |>.mono hb0.size)⟩
theorem addedge_yes {w : World} {base rb q : Nat} {ev : Value} {es : List Ed} {t x : Int} (hc : w.cell? ⟨rb, q + 2, none⟩ = some ev) (ho : w.ownsRow base 62 2 ev es.length (ecs es)) (hl : es.length ≤ 1073741824) (hr : Rise (ends es)) (hf : foundB (ends es) t = false) (hz : w.frozen? ⟨rb, q + 2, none⟩ = false) (hne : ev.ownBlock ≠ some rb) (hbase : base ≤ w.heap.size) :
  Calls Tryz.prog 144 #[.pointer (some ⟨rb, q, none⟩), .agg #[.int .i64 t, .int .i64 x]] w fun e w' => ∃ ev' W, e = .returned (.bool true) ∧ w' = W.setCell ⟨rb, q + 2, none⟩ ev' ∧ (ev'.ownBlock = ev.ownBlock ∨ ∀ k, ev'.ownBlock = some k → w.heap.size ≤ k) ∧ Fr w W (fun k => ev.ownBlock = some k) ∧
   W.ownsRow base 62 2 ev' (es.take (findN (ends es) t) ++ ⟨t, x⟩ :: es.drop (findN (ends es) t)).length (ecs (es.take (findN (ends es) t) ++ ⟨t, x⟩ :: es.drop (findN (ends es) t))) := by
 have hp := findN_le (ends es) t
 rw [ends_len] at hp
 obtain ⟨eo, m, ec, rfl⟩ := own_any ho
 obtain ⟨rfl, hE⟩ := own_eds ho
 obtain ⟨W0, hW0⟩ : ∃ W0, w.alloc (.cells #[.int .i64 t, .int .i64 x] 62) = W0 := ⟨_, rfl⟩
 have hb0 : Below w.heap.size w W0 := by rw [← hW0]; exact one_new _ _
 have hq0 : W0.heap[w.heap.size]? = some (.cells #[.int .i64 t, .int .i64 x] 62 (0, 0)) := by rw [← hW0]; exact heap_alloc_new _ _
 have hc0 := (hb0.cell (p := ⟨rb, q + 2, none⟩) (lt_cell hc)).trans hc
 have HF := fun W (hb : Below W0.heap.size W0 W) => findedge_any (w := W) ec t ((hE.new hb0).new hb) hl hr
 rw [hf] at HF
 generalize findN (ends es) t = p at HF hp ⊢
 have hlen : (es.take p ++ (⟨t, x⟩ : Ed) :: es.drop p).length = es.length + 1 := by simp; omega
 have hcs : ecs (es.take p ++ (⟨t, x⟩ : Ed) :: es.drop p) = (ecs es).take (p * 2) ++ [.int .i64 t, .int .i64 x] ++ (ecs es).drop (p * 2) := by rw [ecs_take, ecs_drop, ecs_app]; simp [ecs]
 rw [hlen, hcs]
 have HO : Hid _ := own_new ho hb0
 have HC : Hid _ := cell_fr (Fr.ofBelow hb0 (fun _ => False)) (fun h => h) hc hz
 have HN : Hid _ := hne
 have HL : Hid (base ≤ w.heap.size) := hbase
 have HS : Hid (W0.heap.size = w.heap.size + 1) := by show _ = _; rw [← hW0, World.size_alloc]
 have HQ : Hid _ := hq0
 have HLt : Hid (∀ k, (Value.slice eo es.length ec).ownBlock = some k → k < w.heap.size) := fun k hk => (ho.lt k hk).2
 obtain ⟨k0, k1⟩ : W0.cell? ⟨w.heap.size, 0, none⟩ = some (.int .i64 t) ∧ W0.cell? ⟨w.heap.size, 1, none⟩ = some (.int .i64 x) := by constructor <;> simp [World.cell?, hq0]
 have x0 : W0.cell? ⟨rb, q + 2, none⟩ = some (.slice eo es.length ec) ∧ W0.cell? ⟨w.heap.size, 0, none⟩ = some (.int .i64 t) := ⟨hc0, k0⟩
 clear ho hr hf hE hc hz hne hbase hlen hcs hq0
 go_enter Tryz.func144, Tryz.ntmps144
 go_upto_region 1 with (fail)
 go_region_held (fun w' => w'.cell? ⟨rb, q + 2, none⟩ = some (.slice eo es.length ec) ∧ w'.cell? ⟨w.heap.size, 0, none⟩ = some (.int .i64 t)) (first | exact x1 | exact x0)
  (first | (go_at_call 174; refine (HF _ ((Below.refl _ _).drew)).mono ?_; rintro e w1 ⟨rfl, hb⟩; have x1 := two_kept hb x0))
 have HB : Hid (Below w.heap.size w w1) := hb0.trans (((Below.refl _ _).drew).trans hb |>.mono hb0.size)
 have hs1 : w.heap.size + 1 ≤ w1.heap.size := by have := hb.size; have e := HS.out; have e2 : W0.drew.heap.size = W0.heap.size := rfl; omega
 have hq1 : w1.heap[w.heap.size]? = some (.cells #[.int .i64 t, .int .i64 x] 62 (0, 0)) := (hb.block _ (by have e := HS.out; have e2 : W0.drew.heap.size = W0.heap.size := rfl; omega)).trans HQ.out
 have hc1 := cell_fr (Fr.ofBelow hb (fun _ => False)) (fun h => h) HC.out.1 HC.out.2
 have c1 := hc1.1
 obtain ⟨d0, d1⟩ : w1.cell? ⟨w.heap.size, 0, none⟩ = some (.int .i64 t) ∧ w1.cell? ⟨w.heap.size, 1, none⟩ = some (.int .i64 x) := by constructor <;> simp [World.cell?, hq1]
 have ho1 := own_new (w := W0.drew) HO.out hb
 clear hq1 hb x0 x1 k0 k1 hc0 HF hb0 hW0
 have HO1 : Hid _ := ho1
 have HC1 : Hid _ := hc1
 have hz1 := hc1.2
 have hrb1 := lt_cell c1
 have hrb2 := lt_cell d0
 have HS1 : Hid (w.heap.size + 1 ≤ w1.heap.size) := hs1
 clear ho1 hc1
 go_upto_region 3 with (fail)
 go_region_law (first | (go_simp; go_at_call 178; refine (insE_new t x HO1.out (ecs_one es) p hp (by have := HL.out; have := HS1.out; omega) hl).mono ?_; rintro e w2 ⟨v', rfl, hv', ho', hf'⟩; obtain ⟨ao', m', c', rfl⟩ := own_any ho'; have h2 := cell_fr hf' (fun e => HN.out e) HC1.out.1 HC1.out.2; have c2 := h2.1; have z2 := h2.2; have HO2 : Hid _ := ho'; have HFr : Hid _ := hf'; have HV : Hid _ := hv'; clear ho' hf' hv'))
 all_goals
  go_wp2
  go_ret
  exact ⟨_, _, rfl, rfl, HV.out.imp id (fun h k hk => by have := h k hk; have := HS1.out; omega), (Fr.ofBelow HB.out _).trans HFr.out (fun _ _ h => h), HO2.out⟩
theorem gw_slice {w : World} {base : Nat} {sv : Value} {A B : List (Vx × Value)} {x : Vx × Value} (h : GW w base sv (A ++ x :: B)) : ∃ rb cap, sv = .slice (some ⟨rb, 0, none⟩) (A ++ x :: B).length cap ∧ base ≤ rb ∧ rb < w.heap.size ∧ x.2.ownBlock ≠ some rb ∧ w.cell? ⟨rb, A.length * 3 + 2, none⟩ = some x.2 ∧ w.frozen? ⟨rb, A.length * 3 + 2, none⟩ = false := by
 rcases h.row.2 with ⟨h1, h2⟩ | ⟨g, cap, cur, h1, hb, hg, hn, hc, hcs, ht⟩
 ·rw [List.length_append, List.length_cons] at h2; omega
 ·have ha := gcs_at A B x
  have hcell := h.row.cells (g := g) (by rw [h1]; rfl) _ _ ha.2.2
  rw [Addr.add_lit, Nat.zero_add] at hcell
  refine ⟨g, cap, h1, hb, (Array.getElem?_eq_some_iff.1 hg).1, fun e => own_diff h.row (h.eds x (by simp)) (by decide) g e (by rw [h1]; rfl), hcell, ?_⟩
  simp [World.frozen?, hg]
def GT (w : World) (base k : Nat) : Prop := base ≤ k ∧ ∃ cur t f, w.heap[k]? = some (.cells cur t f) ∧ (t = 65 ∨ t = 62)
theorem own_gtV {w : World} {base n k : Nat} {v : Value} {xs : List Value} (h : w.ownsRow base 65 3 v n xs) (hk : v.ownBlock = some k) : GT w base k := by
 rcases h.2 with ⟨rfl, _⟩ | ⟨g, cap, cur, rfl, hb, hg, _⟩
 ·cases hk
 ·cases hk
  exact ⟨hb, _, _, _, hg, .inl rfl⟩
theorem own_gtE {w : World} {base n k : Nat} {v : Value} {xs : List Value} (h : w.ownsRow base 62 2 v n xs) (hk : v.ownBlock = some k) : GT w base k := by
 rcases h.2 with ⟨rfl, _⟩ | ⟨g, cap, cur, rfl, hb, hg, _⟩
 ·cases hk
 ·cases hk
  exact ⟨hb, _, _, _, hg, .inr rfl⟩
theorem map_mid (A B : List (Vx × Value)) (x : Vx × Value) : (A ++ x :: B).map (·.1) = A.map (·.1) ++ x.1 :: B.map (·.1) := by simp
set_option maxHeartbeats 400000 in
theorem do2_no {w : World} {base bg : Nat} {sv : Value} {L : List (Vx × Value)} {m : Mu} (hg : w.heap[bg]? = some (.cells #[sv] 24 (0, 0))) (h : GW w base sv L) (hbg : bg < base) (hbase : base ≤ w.heap.size) (hf : Fine (L.map (·.1))) (hl : L.length ≤ 1073741824) (hk : m.k = 2) (hfo : foundB (ids (L.map (·.1))) m.i = false) :
  Calls Tryz.prog 115 #[.pointer (some ⟨bg, 0, none⟩), .agg #[.int .i64 m.k, .int .i64 m.i, .int .i64 m.t, .int .i64 m.v]] w fun e w' => e = .returned (.bool false) ∧ Below w.heap.size w w' := by
 rw [hk]
 obtain ⟨ao, cap, rfl, hV⟩ := h.at_
 obtain ⟨W0, hW0⟩ : ∃ W0, w.alloc (.cells #[.int .i64 2, .int .i64 m.i, .int .i64 m.t, .int .i64 m.v] 195) = W0 := ⟨_, rfl⟩
 have hb0 : Below w.heap.size w W0 := by rw [← hW0]; exact one_new _ _
 have hs0 : W0.heap.size = w.heap.size + 1 := by rw [← hW0, World.size_alloc]
 have hq0 : W0.heap[w.heap.size]? = some (.cells #[.int .i64 2, .int .i64 m.i, .int .i64 m.t, .int .i64 m.v] 195 (0, 0)) := by rw [← hW0]; exact heap_alloc_new _ _
 have hg0 : W0.heap[bg]? = some (.cells #[.slice ao L.length cap] 24 (0, 0)) := (hb0.block _ (by omega)).trans hg
 have hlm : (L.map (·.1)).length = L.length := List.length_map _
 have HF := fun W (hb : Below W0.heap.size W0 W) => findW_any (w := W) cap m.i ((hV.new hb0).new hb) (by rw [hlm]; exact hl) (rise_pw.2 hf.ids)
 rw [hlm, hfo] at HF
 generalize findN (ids (L.map (·.1))) m.i = p at HF
 have x0 : W0.cell? ⟨bg, 0, none⟩ = some (.slice ao L.length cap) ∧ W0.cell? ⟨w.heap.size, 1, none⟩ = some (.int .i64 m.i) := by constructor <;> simp [World.cell?, hg0, hq0]
 have HQ : Hid _ := hq0
 have HG : Hid _ := hg0
 have HBg : Hid (bg < w.heap.size) := Nat.lt_of_lt_of_le hbg hbase
 clear hq0 hg0 hV hfo h hf hg hbg hbase hlm hl
 go_enter Tryz.func115, Tryz.ntmps115
 go_upto_region 1 with (fail)
 go_region_held (fun w' => w'.cell? ⟨bg, 0, none⟩ = some (.slice ao L.length cap) ∧ w'.cell? ⟨w.heap.size, 1, none⟩ = some (.int .i64 m.i)) (first | exact x1 | exact x0)
  (first | (go_at_call 99; refine (HF _ ((Below.refl _ _).drew)).mono ?_; rintro e w1 ⟨rfl, hb⟩; have x1 := two_kept hb x0))
 have HB : Hid (Below w.heap.size w w1) := hb0.trans (((Below.refl _ _).drew).trans hb |>.mono hb0.size)
 have hd0 : W0.drew.heap.size = W0.heap.size := rfl
 have hs1 : w.heap.size + 1 ≤ w1.heap.size := by have := hb.size; omega
 have hq1 : w1.heap[w.heap.size]? = some (.cells #[.int .i64 2, .int .i64 m.i, .int .i64 m.t, .int .i64 m.v] 195 (0, 0)) := (hb.block _ (by omega)).trans HQ.out
 have hg1 : w1.heap[bg]? = some (.cells #[.slice ao L.length cap] 24 (0, 0)) := (hb.block _ (by have := HBg.out; omega)).trans HG.out
 obtain ⟨k0, k1, k2, k3⟩ : w1.cell? ⟨w.heap.size, 0, none⟩ = some (.int .i64 2) ∧ w1.cell? ⟨w.heap.size, 1, none⟩ = some (.int .i64 m.i) ∧ w1.cell? ⟨w.heap.size, 2, none⟩ = some (.int .i64 m.t) ∧ w1.cell? ⟨w.heap.size, 3, none⟩ = some (.int .i64 m.v) := by refine ⟨?_, ?_, ?_, ?_⟩ <;> simp [World.cell?, hq1]
 clear hd0 hq1 hb HF hb0 hW0 hs0 x0 x1
 clear hg1 k1 k2 k3
 go_wp2
 go_ret
 exact ⟨rfl, HB.out⟩
set_option maxHeartbeats 400000 in
theorem do3_no {w : World} {base bg : Nat} {sv : Value} {L : List (Vx × Value)} {m : Mu} (hg : w.heap[bg]? = some (.cells #[sv] 24 (0, 0))) (h : GW w base sv L) (hbg : bg < base) (hbase : base ≤ w.heap.size) (hf : Fine (L.map (·.1))) (hl : L.length ≤ 1073741824) (hk : m.k = 3) (hfo : foundB (ids (L.map (·.1))) m.i = true) :
  Calls Tryz.prog 115 #[.pointer (some ⟨bg, 0, none⟩), .agg #[.int .i64 m.k, .int .i64 m.i, .int .i64 m.t, .int .i64 m.v]] w fun e w' => e = .returned (.bool false) ∧ Below w.heap.size w w' := by
 rw [hk]
 obtain ⟨ao, cap, rfl, hV⟩ := h.at_
 obtain ⟨W0, hW0⟩ : ∃ W0, w.alloc (.cells #[.int .i64 3, .int .i64 m.i, .int .i64 m.t, .int .i64 m.v] 195) = W0 := ⟨_, rfl⟩
 have hb0 : Below w.heap.size w W0 := by rw [← hW0]; exact one_new _ _
 have hs0 : W0.heap.size = w.heap.size + 1 := by rw [← hW0, World.size_alloc]
 have hq0 : W0.heap[w.heap.size]? = some (.cells #[.int .i64 3, .int .i64 m.i, .int .i64 m.t, .int .i64 m.v] 195 (0, 0)) := by rw [← hW0]; exact heap_alloc_new _ _
 have hg0 : W0.heap[bg]? = some (.cells #[.slice ao L.length cap] 24 (0, 0)) := (hb0.block _ (by omega)).trans hg
 have hlm : (L.map (·.1)).length = L.length := List.length_map _
 have HF := fun W (hb : Below W0.heap.size W0 W) => findW_any (w := W) cap m.i ((hV.new hb0).new hb) (by rw [hlm]; exact hl) (rise_pw.2 hf.ids)
 rw [hlm, hfo] at HF
 generalize findN (ids (L.map (·.1))) m.i = p at HF
 have x0 : W0.cell? ⟨bg, 0, none⟩ = some (.slice ao L.length cap) ∧ W0.cell? ⟨w.heap.size, 1, none⟩ = some (.int .i64 m.i) := by constructor <;> simp [World.cell?, hg0, hq0]
 have HQ : Hid _ := hq0
 have HG : Hid _ := hg0
 have HBg : Hid (bg < w.heap.size) := Nat.lt_of_lt_of_le hbg hbase
 clear hq0 hg0 hV hfo h hf hg hbg hbase hlm hl
 go_enter Tryz.func115, Tryz.ntmps115
 go_upto_region 1 with (fail)
 go_region_held (fun w' => w'.cell? ⟨bg, 0, none⟩ = some (.slice ao L.length cap) ∧ w'.cell? ⟨w.heap.size, 1, none⟩ = some (.int .i64 m.i)) (first | exact x1 | exact x0)
  (first | (go_at_call 99; refine (HF _ ((Below.refl _ _).drew)).mono ?_; rintro e w1 ⟨rfl, hb⟩; have x1 := two_kept hb x0))
 have HB : Hid (Below w.heap.size w w1) := hb0.trans (((Below.refl _ _).drew).trans hb |>.mono hb0.size)
 have hd0 : W0.drew.heap.size = W0.heap.size := rfl
 have hs1 : w.heap.size + 1 ≤ w1.heap.size := by have := hb.size; omega
 have hq1 : w1.heap[w.heap.size]? = some (.cells #[.int .i64 3, .int .i64 m.i, .int .i64 m.t, .int .i64 m.v] 195 (0, 0)) := (hb.block _ (by omega)).trans HQ.out
 have hg1 : w1.heap[bg]? = some (.cells #[.slice ao L.length cap] 24 (0, 0)) := (hb.block _ (by have := HBg.out; omega)).trans HG.out
 obtain ⟨k0, k1, k2, k3⟩ : w1.cell? ⟨w.heap.size, 0, none⟩ = some (.int .i64 3) ∧ w1.cell? ⟨w.heap.size, 1, none⟩ = some (.int .i64 m.i) ∧ w1.cell? ⟨w.heap.size, 2, none⟩ = some (.int .i64 m.t) ∧ w1.cell? ⟨w.heap.size, 3, none⟩ = some (.int .i64 m.v) := by refine ⟨?_, ?_, ?_, ?_⟩ <;> simp [World.cell?, hq1]
 clear hd0 hq1 hb HF hb0 hW0 hs0 x0 x1
 clear hg1 k1 k2 k3
 go_wp2
 go_ret
 exact ⟨rfl, HB.out⟩
theorem below_drewN (w : World) (n : Nat) : Below w.heap.size w (w.drewN n) := ⟨rfl, rfl, rfl, Nat.le_refl _, fun _ _ => rfl⟩
set_option maxHeartbeats 400000 in
theorem do1_no {w : World} {base bg : Nat} {sv : Value} {L : List (Vx × Value)} {m : Mu} (hg : w.heap[bg]? = some (.cells #[sv] 24 (0, 0))) (h : GW w base sv L) (hbg : bg < base) (hbase : base ≤ w.heap.size) (hf : Fine (L.map (·.1))) (hl : L.length ≤ 1073741824) (hk : m.k = 1) (hfo : foundB (ids (L.map (·.1))) m.i = false) :
  Calls Tryz.prog 115 #[.pointer (some ⟨bg, 0, none⟩), .agg #[.int .i64 m.k, .int .i64 m.i, .int .i64 m.t, .int .i64 m.v]] w fun e w' => e = .returned (.bool false) ∧ Below w.heap.size w w' := by
 rw [hk]
 obtain ⟨ao, cap, rfl, hV⟩ := h.at_
 obtain ⟨W0, hW0⟩ : ∃ W0, w.alloc (.cells #[.int .i64 1, .int .i64 m.i, .int .i64 m.t, .int .i64 m.v] 195) = W0 := ⟨_, rfl⟩
 have hb0 : Below w.heap.size w W0 := by rw [← hW0]; exact one_new _ _
 have hs0 : W0.heap.size = w.heap.size + 1 := by rw [← hW0, World.size_alloc]
 have hq0 : W0.heap[w.heap.size]? = some (.cells #[.int .i64 1, .int .i64 m.i, .int .i64 m.t, .int .i64 m.v] 195 (0, 0)) := by rw [← hW0]; exact heap_alloc_new _ _
 have hg0 : W0.heap[bg]? = some (.cells #[.slice ao L.length cap] 24 (0, 0)) := (hb0.block _ (by omega)).trans hg
 have hlm : (L.map (·.1)).length = L.length := List.length_map _
 have HF := fun W (hb : Below W0.heap.size W0 W) => findW_any (w := W) cap m.i ((hV.new hb0).new hb) (by rw [hlm]; exact hl) (rise_pw.2 hf.ids)
 rw [hlm, hfo] at HF
 generalize findN (ids (L.map (·.1))) m.i = p at HF
 have x0 : W0.cell? ⟨bg, 0, none⟩ = some (.slice ao L.length cap) ∧ W0.cell? ⟨w.heap.size, 1, none⟩ = some (.int .i64 m.i) := by constructor <;> simp [World.cell?, hg0, hq0]
 have HQ : Hid _ := hq0
 have HG : Hid _ := hg0
 have HBg : Hid (bg < w.heap.size) := Nat.lt_of_lt_of_le hbg hbase
 clear hq0 hg0 hV hfo h hf hg hbg hbase hlm hl
 go_enter Tryz.func115, Tryz.ntmps115
 go_upto_region 1 with (fail)
 go_region_held (fun w' => w'.cell? ⟨bg, 0, none⟩ = some (.slice ao L.length cap) ∧ w'.cell? ⟨w.heap.size, 1, none⟩ = some (.int .i64 m.i)) (first | exact x1 | exact x0)
  (first | (go_at_call 99; refine (HF _ ((Below.refl _ _).drew)).mono ?_; rintro e w1 ⟨rfl, hb⟩; have x1 := two_kept hb x0))
 have HB : Hid (Below w.heap.size w w1) := hb0.trans (((Below.refl _ _).drew).trans hb |>.mono hb0.size)
 have hd0 : W0.drew.heap.size = W0.heap.size := rfl
 have hs1 : w.heap.size + 1 ≤ w1.heap.size := by have := hb.size; omega
 have hq1 : w1.heap[w.heap.size]? = some (.cells #[.int .i64 1, .int .i64 m.i, .int .i64 m.t, .int .i64 m.v] 195 (0, 0)) := (hb.block _ (by omega)).trans HQ.out
 have hg1 : w1.heap[bg]? = some (.cells #[.slice ao L.length cap] 24 (0, 0)) := (hb.block _ (by have := HBg.out; omega)).trans HG.out
 obtain ⟨k0, k1, k2, k3⟩ : w1.cell? ⟨w.heap.size, 0, none⟩ = some (.int .i64 1) ∧ w1.cell? ⟨w.heap.size, 1, none⟩ = some (.int .i64 m.i) ∧ w1.cell? ⟨w.heap.size, 2, none⟩ = some (.int .i64 m.t) ∧ w1.cell? ⟨w.heap.size, 3, none⟩ = some (.int .i64 m.v) := by refine ⟨?_, ?_, ?_, ?_⟩ <;> simp [World.cell?, hq1]
 clear hd0 hq1 hb HF hb0 hW0 hs0 x0 x1
 clear hg1 k1 k2 k3
 go_upto_region 4 with (fail)
 go_quiet ((fail))
 all_goals
  go_wp2
  go_ret
  exact ⟨rfl, HB.out.trans (below_drewN w1 nq |>.mono HB.out.size)⟩
set_option maxHeartbeats 400000 in
theorem do4_no {w : World} {base bg : Nat} {sv : Value} {L : List (Vx × Value)} {m : Mu} (hg : w.heap[bg]? = some (.cells #[sv] 24 (0, 0))) (h : GW w base sv L) (hbg : bg < base) (hbase : base ≤ w.heap.size) (hf : Fine (L.map (·.1))) (hl : L.length ≤ 1073741824) (hk : m.k = 4) (hfo : foundB (ids (L.map (·.1))) m.i = false) :
  Calls Tryz.prog 115 #[.pointer (some ⟨bg, 0, none⟩), .agg #[.int .i64 m.k, .int .i64 m.i, .int .i64 m.t, .int .i64 m.v]] w fun e w' => e = .returned (.bool false) ∧ Below w.heap.size w w' := by
 rw [hk]
 obtain ⟨ao, cap, rfl, hV⟩ := h.at_
 obtain ⟨W0, hW0⟩ : ∃ W0, w.alloc (.cells #[.int .i64 4, .int .i64 m.i, .int .i64 m.t, .int .i64 m.v] 195) = W0 := ⟨_, rfl⟩
 have hb0 : Below w.heap.size w W0 := by rw [← hW0]; exact one_new _ _
 have hs0 : W0.heap.size = w.heap.size + 1 := by rw [← hW0, World.size_alloc]
 have hq0 : W0.heap[w.heap.size]? = some (.cells #[.int .i64 4, .int .i64 m.i, .int .i64 m.t, .int .i64 m.v] 195 (0, 0)) := by rw [← hW0]; exact heap_alloc_new _ _
 have hg0 : W0.heap[bg]? = some (.cells #[.slice ao L.length cap] 24 (0, 0)) := (hb0.block _ (by omega)).trans hg
 have hlm : (L.map (·.1)).length = L.length := List.length_map _
 have HF := fun W (hb : Below W0.heap.size W0 W) => findW_any (w := W) cap m.i ((hV.new hb0).new hb) (by rw [hlm]; exact hl) (rise_pw.2 hf.ids)
 rw [hlm, hfo] at HF
 generalize findN (ids (L.map (·.1))) m.i = p at HF
 have x0 : W0.cell? ⟨bg, 0, none⟩ = some (.slice ao L.length cap) ∧ W0.cell? ⟨w.heap.size, 1, none⟩ = some (.int .i64 m.i) := by constructor <;> simp [World.cell?, hg0, hq0]
 have HQ : Hid _ := hq0
 have HG : Hid _ := hg0
 have HBg : Hid (bg < w.heap.size) := Nat.lt_of_lt_of_le hbg hbase
 clear hq0 hg0 hV hfo h hf hg hbg hbase hlm hl
 go_enter Tryz.func115, Tryz.ntmps115
 go_upto_region 1 with (fail)
 go_region_held (fun w' => w'.cell? ⟨bg, 0, none⟩ = some (.slice ao L.length cap) ∧ w'.cell? ⟨w.heap.size, 1, none⟩ = some (.int .i64 m.i)) (first | exact x1 | exact x0)
  (first | (go_at_call 99; refine (HF _ ((Below.refl _ _).drew)).mono ?_; rintro e w1 ⟨rfl, hb⟩; have x1 := two_kept hb x0))
 have HB : Hid (Below w.heap.size w w1) := hb0.trans (((Below.refl _ _).drew).trans hb |>.mono hb0.size)
 have hd0 : W0.drew.heap.size = W0.heap.size := rfl
 have hs1 : w.heap.size + 1 ≤ w1.heap.size := by have := hb.size; omega
 have hq1 : w1.heap[w.heap.size]? = some (.cells #[.int .i64 4, .int .i64 m.i, .int .i64 m.t, .int .i64 m.v] 195 (0, 0)) := (hb.block _ (by omega)).trans HQ.out
 have hg1 : w1.heap[bg]? = some (.cells #[.slice ao L.length cap] 24 (0, 0)) := (hb.block _ (by have := HBg.out; omega)).trans HG.out
 obtain ⟨k0, k1, k2, k3⟩ : w1.cell? ⟨w.heap.size, 0, none⟩ = some (.int .i64 4) ∧ w1.cell? ⟨w.heap.size, 1, none⟩ = some (.int .i64 m.i) ∧ w1.cell? ⟨w.heap.size, 2, none⟩ = some (.int .i64 m.t) ∧ w1.cell? ⟨w.heap.size, 3, none⟩ = some (.int .i64 m.v) := by refine ⟨?_, ?_, ?_, ?_⟩ <;> simp [World.cell?, hq1]
 clear hd0 hq1 hb HF hb0 hW0 hs0 x0 x1
 clear hg1 k1 k2 k3
 go_upto_region 14 with (fail)
 go_quiet ((fail))
 all_goals
  go_wp2
  go_ret
  exact ⟨rfl, HB.out.trans (below_drewN w1 nq |>.mono HB.out.size)⟩
theorem three_kept {W w1 : World} (hb : Below W.drew.heap.size W.drew w1) {a b c d e f : Nat} {u v z : Value} (h : W.cell? ⟨a, b, none⟩ = some u ∧ W.cell? ⟨c, d, none⟩ = some v ∧ W.cell? ⟨e, f, none⟩ = some z) : w1.cell? ⟨a, b, none⟩ = some u ∧ w1.cell? ⟨c, d, none⟩ = some v ∧ w1.cell? ⟨e, f, none⟩ = some z :=
 ⟨(hb.cell (p := ⟨a, b, none⟩) (lt_cell h.1)).trans h.1, (hb.cell (p := ⟨c, d, none⟩) (lt_cell h.2.1)).trans h.2.1, (hb.cell (p := ⟨e, f, none⟩) (lt_cell h.2.2)).trans h.2.2⟩
theorem three_set {w1 W : World} {S : Nat → Prop} {rb o : Nat} {ev : Value} (hf : Fr w1.drew W S) {a c b d f : Nat} {u v z : Value} (h : w1.cell? ⟨a, b, none⟩ = some u ∧ w1.cell? ⟨c, d, none⟩ = some v ∧ w1.cell? ⟨c, f, none⟩ = some z) (h1 : ¬ S a) (h2 : a ≠ rb) (h3 : ¬ S c) (h4 : c ≠ rb) : (W.setCell ⟨rb, o, none⟩ ev).cell? ⟨a, b, none⟩ = some u ∧ (W.setCell ⟨rb, o, none⟩ ev).cell? ⟨c, d, none⟩ = some v ∧ (W.setCell ⟨rb, o, none⟩ ev).cell? ⟨c, f, none⟩ = some z := by
 have fs : Fr W (W.setCell ⟨rb, o, none⟩ ev) (fun k => k = rb) := Fr.setCell (S := fun k => k = rb) W ⟨rb, o, none⟩ ev rfl
 exact ⟨fr_cell fs h2 (fr_cell hf h1 h.1), fr_cell fs h4 (fr_cell hf h3 h.2.1), fr_cell fs h4 (fr_cell hf h3 h.2.2)⟩
set_option maxHeartbeats 400000 in
theorem do1_same {w : World} {base bg : Nat} {sv : Value} {A B : List (Vx × Value)} {x : Vx × Value} {m : Mu} (hg : w.heap[bg]? = some (.cells #[sv] 24 (0, 0))) (h : GW w base sv (A ++ x :: B)) (hbg : bg < base) (hbase : base ≤ w.heap.size) (hf : Fine ((A ++ x :: B).map (·.1))) (hl : (A ++ x :: B).length ≤ 1073741824) (hk : m.k = 1) (hfo : foundB (ids ((A ++ x :: B).map (·.1))) m.i = true) (hfn : findN (ids ((A ++ x :: B).map (·.1))) m.i = A.length) (hel : x.1.es.length ≤ 1073741824) (hef : foundB (ends x.1.es) m.t = false) :
  Calls Tryz.prog 115 #[.pointer (some ⟨bg, 0, none⟩), .agg #[.int .i64 m.k, .int .i64 m.i, .int .i64 m.t, .int .i64 m.v]] w fun e w' => e = .returned (.bool false) ∧ Below w.heap.size w w' := by
 rw [hk]
 obtain ⟨rb, cap, rfl, hrb1, hrb2, hne, hcx, hzx⟩ := gw_slice h
 obtain ⟨ao, cap2, hao, hV⟩ := h.at_
 cases hao
 obtain ⟨n, hn⟩ : ∃ n, (A ++ x :: B).length = n := ⟨_, rfl⟩
 rw [hn] at hg h hl
 have HNn : Hid _ := hn
 obtain ⟨W0, hW0⟩ : ∃ W0, w.alloc (.cells #[.int .i64 1, .int .i64 m.i, .int .i64 m.t, .int .i64 m.v] 195) = W0 := ⟨_, rfl⟩
 have hb0 : Below w.heap.size w W0 := by rw [← hW0]; exact one_new _ _
 have hs0 : W0.heap.size = w.heap.size + 1 := by rw [← hW0, World.size_alloc]
 have hq0 : W0.heap[w.heap.size]? = some (.cells #[.int .i64 1, .int .i64 m.i, .int .i64 m.t, .int .i64 m.v] 195 (0, 0)) := by rw [← hW0]; exact heap_alloc_new _ _
 have hg0 : W0.heap[bg]? = some (.cells #[.slice (some ⟨rb, 0, none⟩) n cap] 24 (0, 0)) := (hb0.block _ (by omega)).trans hg
 have hlm : ((A ++ x :: B).map (·.1)).length = n := (List.length_map _).trans hn
 have HF := fun W (hb : Below W0.heap.size W0 W) => findW_any (w := W) cap m.i ((hV.new hb0).new hb) (by rw [hlm]; exact hl) (rise_pw.2 hf.ids)
 rw [hlm, hfo] at HF
 rw [hfn] at HF
 have x0 : W0.cell? ⟨bg, 0, none⟩ = some (.slice (some ⟨rb, 0, none⟩) n cap) ∧ W0.cell? ⟨w.heap.size, 1, none⟩ = some (.int .i64 m.i) := by constructor <;> simp [World.cell?, hg0, hq0]
 have HQ : Hid _ := hq0
 have HG : Hid _ := hg0
 have HBg : Hid (bg < w.heap.size) := Nat.lt_of_lt_of_le hbg hbase
 have HH : Hid _ := h
 have HC : Hid _ := hcx
 have HZ : Hid _ := hzx
 have HN : Hid (x.2.ownBlock ≠ some rb) := hne
 have HEl : Hid (x.1.es.length ≤ 1073741824) := hel
 have HER : Hid (Rise (ends x.1.es)) := rise_pw.2 (hf.es x.1 (by rw [map_mid]; simp))
 have HEF : Hid (foundB (ends x.1.es) m.t = false) := hef
 have HBase : Hid (base ≤ w.heap.size) := hbase
 have HBb : Hid (bg < base ∧ base ≤ rb ∧ rb < w.heap.size) := ⟨hbg, hrb1, hrb2⟩
 have HXl : Hid (∀ k, x.2.ownBlock = some k → base ≤ k ∧ k < w.heap.size) := (h.eds x (by simp)).lt
 have HXt : Hid (∀ k, x.2.ownBlock = some k → GT w base k) := fun k hk => own_gtE (h.eds x (by simp)) hk
 have HRt : Hid (GT w base rb) := own_gtV h.row rfl
 have hAl : A.length < n := by rw [← hn, List.length_append, List.length_cons]; omega
 clear hn hq0 hg0 hV hfo hfn h hf hg hbg hbase hlm hl hne hrb1 hrb2 hcx hzx hel hef
 go_enter Tryz.func115, Tryz.ntmps115
 go_upto_region 1 with (fail)
 go_region_held (fun w' => w'.cell? ⟨bg, 0, none⟩ = some (.slice (some ⟨rb, 0, none⟩) n cap) ∧ w'.cell? ⟨w.heap.size, 1, none⟩ = some (.int .i64 m.i)) (first | exact x1 | exact x0)
  (first | (go_at_call 99; refine (HF _ ((Below.refl _ _).drew)).mono ?_; rintro e w1 ⟨rfl, hb⟩; have x1 := two_kept hb x0))
 have HB : Hid (Below w.heap.size w w1) := hb0.trans (((Below.refl _ _).drew).trans hb |>.mono hb0.size)
 have hd0 : W0.drew.heap.size = W0.heap.size := rfl
 have hs1 : w.heap.size + 1 ≤ w1.heap.size := by have := hb.size; omega
 have hq1 : w1.heap[w.heap.size]? = some (.cells #[.int .i64 1, .int .i64 m.i, .int .i64 m.t, .int .i64 m.v] 195 (0, 0)) := (hb.block _ (by omega)).trans HQ.out
 have hg1 : w1.heap[bg]? = some (.cells #[.slice (some ⟨rb, 0, none⟩) n cap] 24 (0, 0)) := (hb.block _ (by have := HBg.out; omega)).trans HG.out
 obtain ⟨k0, k1, k2, k3⟩ : w1.cell? ⟨w.heap.size, 0, none⟩ = some (.int .i64 1) ∧ w1.cell? ⟨w.heap.size, 1, none⟩ = some (.int .i64 m.i) ∧ w1.cell? ⟨w.heap.size, 2, none⟩ = some (.int .i64 m.t) ∧ w1.cell? ⟨w.heap.size, 3, none⟩ = some (.int .i64 m.v) := by refine ⟨?_, ?_, ?_, ?_⟩ <;> simp [World.cell?, hq1]
 clear hd0 hq1 hb HF hb0 hW0 hs0 x0 x1
 have hb1 := HB.out
 have hG1 := HH.out.new hb1
 have hc1 := cell_fr (Fr.ofBelow hb1 (fun _ => False)) (fun h => h) HC.out HZ.out
 have HG1 : Hid _ := hG1
 have HC1 : Hid _ := hc1
 have y0 : w1.cell? ⟨bg, 0, none⟩ = some (.slice (some ⟨rb, 0, none⟩) n cap) ∧ w1.cell? ⟨w.heap.size, 2, none⟩ = some (.int .i64 m.t) ∧ w1.cell? ⟨w.heap.size, 3, none⟩ = some (.int .i64 m.v) := ⟨by simp [World.cell?, hg1], k2, k3⟩
 have HO1 : Hid _ := hG1.eds x (by simp)
 have HS1 : Hid (w.heap.size + 1 ≤ w1.heap.size) := hs1
 have HGq : Hid _ := hg1
 clear hG1 hc1 hb1 k1 hg1 HH HC HZ
 go_upto_region 4 with (fail)
 go_region_held (fun w' => w'.cell? ⟨bg, 0, none⟩ = some (.slice (some ⟨rb, 0, none⟩) n cap) ∧ w'.cell? ⟨w.heap.size, 2, none⟩ = some (.int .i64 m.t) ∧ w'.cell? ⟨w.heap.size, 3, none⟩ = some (.int .i64 m.v)) (first | exact y1 | exact y0)
  (first | (go_at_call 141; refine (remedge_no (w := w1.drew) HC1.out.1 HO1.out HEl.out HER.out HEF.out).mono ?_; rintro e w2 ⟨rfl, hb2⟩; have y1 := three_kept hb2 y0))
 have HB2 : Hid (Below w.heap.size w w2) := HB.out.trans (((Below.refl _ _).drew).trans hb2 |>.mono HB.out.size)
 clear y0 y1 k0 k2 k3 hb2
 all_goals
  go_wp2
  go_ret
  exact ⟨rfl, HB2.out⟩
set_option maxHeartbeats 400000 in
theorem do1_yes {w : World} {base bg : Nat} {sv : Value} {A B : List (Vx × Value)} {x : Vx × Value} {m : Mu} (hg : w.heap[bg]? = some (.cells #[sv] 24 (0, 0))) (h : GW w base sv (A ++ x :: B)) (hbg : bg < base) (hbase : base ≤ w.heap.size) (hf : Fine ((A ++ x :: B).map (·.1))) (hl : (A ++ x :: B).length ≤ 1073741824) (hk : m.k = 1) (hfo : foundB (ids ((A ++ x :: B).map (·.1))) m.i = true) (hfn : findN (ids ((A ++ x :: B).map (·.1))) m.i = A.length) (hel : x.1.es.length ≤ 1073741824) (hef : foundB (ends x.1.es) m.t = true) :
  Calls Tryz.prog 115 #[.pointer (some ⟨bg, 0, none⟩), .agg #[.int .i64 m.k, .int .i64 m.i, .int .i64 m.t, .int .i64 m.v]] w fun e w' => ∃ sv' L', e = .returned (.bool true) ∧ L'.map (·.1) = A.map (·.1) ++ ⟨x.1.id, x.1.val, x.1.es.take (findN (ends x.1.es) m.t) ++ x.1.es.drop (findN (ends x.1.es) m.t + 1)⟩ :: B.map (·.1) ∧ w'.heap[bg]? = some (.cells #[sv'] 24 (0, 0)) ∧ GW w' base sv' L' ∧ Fr w w' (fun k => k = bg ∨ GT w base k) := by
 rw [hk]
 obtain ⟨rb, cap, rfl, hrb1, hrb2, hne, hcx, hzx⟩ := gw_slice h
 obtain ⟨ao, cap2, hao, hV⟩ := h.at_
 cases hao
 obtain ⟨n, hn⟩ : ∃ n, (A ++ x :: B).length = n := ⟨_, rfl⟩
 rw [hn] at hg h hl
 have HNn : Hid _ := hn
 obtain ⟨W0, hW0⟩ : ∃ W0, w.alloc (.cells #[.int .i64 1, .int .i64 m.i, .int .i64 m.t, .int .i64 m.v] 195) = W0 := ⟨_, rfl⟩
 have hb0 : Below w.heap.size w W0 := by rw [← hW0]; exact one_new _ _
 have hs0 : W0.heap.size = w.heap.size + 1 := by rw [← hW0, World.size_alloc]
 have hq0 : W0.heap[w.heap.size]? = some (.cells #[.int .i64 1, .int .i64 m.i, .int .i64 m.t, .int .i64 m.v] 195 (0, 0)) := by rw [← hW0]; exact heap_alloc_new _ _
 have hg0 : W0.heap[bg]? = some (.cells #[.slice (some ⟨rb, 0, none⟩) n cap] 24 (0, 0)) := (hb0.block _ (by omega)).trans hg
 have hlm : ((A ++ x :: B).map (·.1)).length = n := (List.length_map _).trans hn
 have HF := fun W (hb : Below W0.heap.size W0 W) => findW_any (w := W) cap m.i ((hV.new hb0).new hb) (by rw [hlm]; exact hl) (rise_pw.2 hf.ids)
 rw [hlm, hfo] at HF
 rw [hfn] at HF
 have x0 : W0.cell? ⟨bg, 0, none⟩ = some (.slice (some ⟨rb, 0, none⟩) n cap) ∧ W0.cell? ⟨w.heap.size, 1, none⟩ = some (.int .i64 m.i) := by constructor <;> simp [World.cell?, hg0, hq0]
 have HQ : Hid _ := hq0
 have HG : Hid _ := hg0
 have HBg : Hid (bg < w.heap.size) := Nat.lt_of_lt_of_le hbg hbase
 have HH : Hid _ := h
 have HC : Hid _ := hcx
 have HZ : Hid _ := hzx
 have HN : Hid (x.2.ownBlock ≠ some rb) := hne
 have HEl : Hid (x.1.es.length ≤ 1073741824) := hel
 have HER : Hid (Rise (ends x.1.es)) := rise_pw.2 (hf.es x.1 (by rw [map_mid]; simp))
 have HEF : Hid (foundB (ends x.1.es) m.t = true) := hef
 have HBase : Hid (base ≤ w.heap.size) := hbase
 have HBb : Hid (bg < base ∧ base ≤ rb ∧ rb < w.heap.size) := ⟨hbg, hrb1, hrb2⟩
 have HXl : Hid (∀ k, x.2.ownBlock = some k → base ≤ k ∧ k < w.heap.size) := (h.eds x (by simp)).lt
 have HXt : Hid (∀ k, x.2.ownBlock = some k → GT w base k) := fun k hk => own_gtE (h.eds x (by simp)) hk
 have HRt : Hid (GT w base rb) := own_gtV h.row rfl
 have hAl : A.length < n := by rw [← hn, List.length_append, List.length_cons]; omega
 clear hn hq0 hg0 hV hfo hfn h hf hg hbg hbase hlm hl hne hrb1 hrb2 hcx hzx hel hef
 go_enter Tryz.func115, Tryz.ntmps115
 go_upto_region 1 with (fail)
 go_region_held (fun w' => w'.cell? ⟨bg, 0, none⟩ = some (.slice (some ⟨rb, 0, none⟩) n cap) ∧ w'.cell? ⟨w.heap.size, 1, none⟩ = some (.int .i64 m.i)) (first | exact x1 | exact x0)
  (first | (go_at_call 99; refine (HF _ ((Below.refl _ _).drew)).mono ?_; rintro e w1 ⟨rfl, hb⟩; have x1 := two_kept hb x0))
 have HB : Hid (Below w.heap.size w w1) := hb0.trans (((Below.refl _ _).drew).trans hb |>.mono hb0.size)
 have hd0 : W0.drew.heap.size = W0.heap.size := rfl
 have hs1 : w.heap.size + 1 ≤ w1.heap.size := by have := hb.size; omega
 have hq1 : w1.heap[w.heap.size]? = some (.cells #[.int .i64 1, .int .i64 m.i, .int .i64 m.t, .int .i64 m.v] 195 (0, 0)) := (hb.block _ (by omega)).trans HQ.out
 have hg1 : w1.heap[bg]? = some (.cells #[.slice (some ⟨rb, 0, none⟩) n cap] 24 (0, 0)) := (hb.block _ (by have := HBg.out; omega)).trans HG.out
 obtain ⟨k0, k1, k2, k3⟩ : w1.cell? ⟨w.heap.size, 0, none⟩ = some (.int .i64 1) ∧ w1.cell? ⟨w.heap.size, 1, none⟩ = some (.int .i64 m.i) ∧ w1.cell? ⟨w.heap.size, 2, none⟩ = some (.int .i64 m.t) ∧ w1.cell? ⟨w.heap.size, 3, none⟩ = some (.int .i64 m.v) := by refine ⟨?_, ?_, ?_, ?_⟩ <;> simp [World.cell?, hq1]
 clear hd0 hq1 hb HF hb0 hW0 hs0 x0 x1
 have hb1 := HB.out
 have hG1 := HH.out.new hb1
 have hc1 := cell_fr (Fr.ofBelow hb1 (fun _ => False)) (fun h => h) HC.out HZ.out
 have HG1 : Hid _ := hG1
 have HC1 : Hid _ := hc1
 have y0 : w1.cell? ⟨bg, 0, none⟩ = some (.slice (some ⟨rb, 0, none⟩) n cap) ∧ w1.cell? ⟨w.heap.size, 2, none⟩ = some (.int .i64 m.t) ∧ w1.cell? ⟨w.heap.size, 3, none⟩ = some (.int .i64 m.v) := ⟨by simp [World.cell?, hg1], k2, k3⟩
 have HO1 : Hid _ := hG1.eds x (by simp)
 have HS1 : Hid (w.heap.size + 1 ≤ w1.heap.size) := hs1
 have HGq : Hid _ := hg1
 clear hG1 hc1 hb1 k1 hg1 HH HC HZ
 go_upto_region 4 with (fail)
 go_region_held (fun w' => w'.cell? ⟨bg, 0, none⟩ = some (.slice (some ⟨rb, 0, none⟩) n cap) ∧ w'.cell? ⟨w.heap.size, 2, none⟩ = some (.int .i64 m.t) ∧ w'.cell? ⟨w.heap.size, 3, none⟩ = some (.int .i64 m.v)) (first | exact y1 | exact y0)
  (first | (go_at_call 141; refine (remedge_yes (w := w1.drew) HC1.out.1 HC1.out.2 HO1.out HN.out HEl.out HER.out HEF.out).mono ?_; rintro e w2 ⟨ev, W, rfl, rfl, hv', hfr, ho'⟩; have y1 := three_set (rb := rb) (ev := ev) (o := A.length * 3 + 2) hfr y0 (fun e => by have := (HXl.out _ e).1; have := HBb.out.1; omega) (by have := HBb.out; omega) (fun e => by have := (HXl.out _ e).2; omega) (by have := HBb.out; omega); have HFr : Hid _ := hfr; have HO : Hid _ := ho'; have HV : Hid _ := hv'; clear hfr ho' hv'))
 have hG1' : GW w1 base (.slice (some ⟨rb, 0, none⟩) (A ++ x :: B).length cap) (A ++ x :: B) := by rw [HNn.out]; exact HG1.out
 have hG2 := GW.put (w := w1) hG1' (((Fr.drew w1 (fun _ => False)).mono (fun _ _ h => h.elim)).trans HFr.out (fun _ _ h => h)) HO.out (Or.inl HV.out)
 have hfr1 : Fr w W (fun k => k = bg ∨ GT w base k) := (Fr.ofBelow HB.out _).trans (((Fr.drew w1 (fun _ => False)).mono (fun _ _ h => h.elim)).trans HFr.out (fun _ _ h => h)) (fun k hk e => Or.inr (HXt.out k e))
 have hfr2 := hfr1.trans (Fr.setCell (S := fun k => k = rb) W ⟨rb, A.length * 3 + 2, none⟩ ev rfl) (fun k _ e => Or.inr (by rw [e]; exact HRt.out))
 have hgW : (W.setCell ⟨rb, A.length * 3 + 2, none⟩ ev).heap[bg]? = some (.cells #[.slice (some ⟨rb, 0, none⟩) n cap] 24 (0, 0)) := (Below.heap_setCell W ⟨rb, _, none⟩ ev bg (by show bg ≠ rb; have := HBb.out; omega)).trans ((HFr.out.block bg (by have := HBg.out; have e : w1.drew.heap.size = w1.heap.size := rfl; have := HS1.out; omega) (fun e => by have := (HXl.out _ e).1; have := HBb.out.1; omega)).trans HGq.out)
 rw [HNn.out] at hG2
 have HG2 : Hid _ := hG2
 have Hfr2 : Hid _ := hfr2
 have HgW : Hid _ := hgW
 clear hG1' hG2 hfr1 hfr2 hgW y0 y1 k0 k2 k3
 all_goals
  go_wp2
  go_ret
  exact ⟨_, _, rfl, map_mid _ _ _, HgW.out, HG2.out, Hfr2.out⟩
set_option maxHeartbeats 400000 in
theorem do4_same {w : World} {base bg : Nat} {sv : Value} {A B : List (Vx × Value)} {x : Vx × Value} {m : Mu} (hg : w.heap[bg]? = some (.cells #[sv] 24 (0, 0))) (h : GW w base sv (A ++ x :: B)) (hbg : bg < base) (hbase : base ≤ w.heap.size) (hf : Fine ((A ++ x :: B).map (·.1))) (hl : (A ++ x :: B).length ≤ 1073741824) (hk : m.k = 4) (hfo : foundB (ids ((A ++ x :: B).map (·.1))) m.i = true) (hfn : findN (ids ((A ++ x :: B).map (·.1))) m.i = A.length) (hel : x.1.es.length ≤ 1073741824) (hef : foundB (ends x.1.es) m.t = true) :
  Calls Tryz.prog 115 #[.pointer (some ⟨bg, 0, none⟩), .agg #[.int .i64 m.k, .int .i64 m.i, .int .i64 m.t, .int .i64 m.v]] w fun e w' => e = .returned (.bool false) ∧ Below w.heap.size w w' := by
 rw [hk]
 obtain ⟨rb, cap, rfl, hrb1, hrb2, hne, hcx, hzx⟩ := gw_slice h
 obtain ⟨ao, cap2, hao, hV⟩ := h.at_
 cases hao
 obtain ⟨n, hn⟩ : ∃ n, (A ++ x :: B).length = n := ⟨_, rfl⟩
 rw [hn] at hg h hl
 have HNn : Hid _ := hn
 obtain ⟨W0, hW0⟩ : ∃ W0, w.alloc (.cells #[.int .i64 4, .int .i64 m.i, .int .i64 m.t, .int .i64 m.v] 195) = W0 := ⟨_, rfl⟩
 have hb0 : Below w.heap.size w W0 := by rw [← hW0]; exact one_new _ _
 have hs0 : W0.heap.size = w.heap.size + 1 := by rw [← hW0, World.size_alloc]
 have hq0 : W0.heap[w.heap.size]? = some (.cells #[.int .i64 4, .int .i64 m.i, .int .i64 m.t, .int .i64 m.v] 195 (0, 0)) := by rw [← hW0]; exact heap_alloc_new _ _
 have hg0 : W0.heap[bg]? = some (.cells #[.slice (some ⟨rb, 0, none⟩) n cap] 24 (0, 0)) := (hb0.block _ (by omega)).trans hg
 have hlm : ((A ++ x :: B).map (·.1)).length = n := (List.length_map _).trans hn
 have HF := fun W (hb : Below W0.heap.size W0 W) => findW_any (w := W) cap m.i ((hV.new hb0).new hb) (by rw [hlm]; exact hl) (rise_pw.2 hf.ids)
 rw [hlm, hfo] at HF
 rw [hfn] at HF
 have x0 : W0.cell? ⟨bg, 0, none⟩ = some (.slice (some ⟨rb, 0, none⟩) n cap) ∧ W0.cell? ⟨w.heap.size, 1, none⟩ = some (.int .i64 m.i) := by constructor <;> simp [World.cell?, hg0, hq0]
 have HQ : Hid _ := hq0
 have HG : Hid _ := hg0
 have HBg : Hid (bg < w.heap.size) := Nat.lt_of_lt_of_le hbg hbase
 have HH : Hid _ := h
 have HC : Hid _ := hcx
 have HZ : Hid _ := hzx
 have HN : Hid (x.2.ownBlock ≠ some rb) := hne
 have HEl : Hid (x.1.es.length ≤ 1073741824) := hel
 have HER : Hid (Rise (ends x.1.es)) := rise_pw.2 (hf.es x.1 (by rw [map_mid]; simp))
 have HEF : Hid (foundB (ends x.1.es) m.t = true) := hef
 have HBase : Hid (base ≤ w.heap.size) := hbase
 have HBb : Hid (bg < base ∧ base ≤ rb ∧ rb < w.heap.size) := ⟨hbg, hrb1, hrb2⟩
 have HXl : Hid (∀ k, x.2.ownBlock = some k → base ≤ k ∧ k < w.heap.size) := (h.eds x (by simp)).lt
 have HXt : Hid (∀ k, x.2.ownBlock = some k → GT w base k) := fun k hk => own_gtE (h.eds x (by simp)) hk
 have HRt : Hid (GT w base rb) := own_gtV h.row rfl
 have hAl : A.length < n := by rw [← hn, List.length_append, List.length_cons]; omega
 clear hn hq0 hg0 hV hfo hfn h hf hg hbg hbase hlm hl hne hrb1 hrb2 hcx hzx hel hef
 go_enter Tryz.func115, Tryz.ntmps115
 go_upto_region 1 with (fail)
 go_region_held (fun w' => w'.cell? ⟨bg, 0, none⟩ = some (.slice (some ⟨rb, 0, none⟩) n cap) ∧ w'.cell? ⟨w.heap.size, 1, none⟩ = some (.int .i64 m.i)) (first | exact x1 | exact x0)
  (first | (go_at_call 99; refine (HF _ ((Below.refl _ _).drew)).mono ?_; rintro e w1 ⟨rfl, hb⟩; have x1 := two_kept hb x0))
 have HB : Hid (Below w.heap.size w w1) := hb0.trans (((Below.refl _ _).drew).trans hb |>.mono hb0.size)
 have hd0 : W0.drew.heap.size = W0.heap.size := rfl
 have hs1 : w.heap.size + 1 ≤ w1.heap.size := by have := hb.size; omega
 have hq1 : w1.heap[w.heap.size]? = some (.cells #[.int .i64 4, .int .i64 m.i, .int .i64 m.t, .int .i64 m.v] 195 (0, 0)) := (hb.block _ (by omega)).trans HQ.out
 have hg1 : w1.heap[bg]? = some (.cells #[.slice (some ⟨rb, 0, none⟩) n cap] 24 (0, 0)) := (hb.block _ (by have := HBg.out; omega)).trans HG.out
 obtain ⟨k0, k1, k2, k3⟩ : w1.cell? ⟨w.heap.size, 0, none⟩ = some (.int .i64 4) ∧ w1.cell? ⟨w.heap.size, 1, none⟩ = some (.int .i64 m.i) ∧ w1.cell? ⟨w.heap.size, 2, none⟩ = some (.int .i64 m.t) ∧ w1.cell? ⟨w.heap.size, 3, none⟩ = some (.int .i64 m.v) := by refine ⟨?_, ?_, ?_, ?_⟩ <;> simp [World.cell?, hq1]
 clear hd0 hq1 hb HF hb0 hW0 hs0 x0 x1
 have hb1 := HB.out
 have hG1 := HH.out.new hb1
 have hc1 := cell_fr (Fr.ofBelow hb1 (fun _ => False)) (fun h => h) HC.out HZ.out
 have HG1 : Hid _ := hG1
 have HC1 : Hid _ := hc1
 have y0 : w1.cell? ⟨bg, 0, none⟩ = some (.slice (some ⟨rb, 0, none⟩) n cap) ∧ w1.cell? ⟨w.heap.size, 2, none⟩ = some (.int .i64 m.t) ∧ w1.cell? ⟨w.heap.size, 3, none⟩ = some (.int .i64 m.v) := ⟨by simp [World.cell?, hg1], k2, k3⟩
 have HO1 : Hid _ := hG1.eds x (by simp)
 have HS1 : Hid (w.heap.size + 1 ≤ w1.heap.size) := hs1
 have HGq : Hid _ := hg1
 clear hG1 hc1 hb1 k1 hg1 HH HC HZ
 go_upto_region 14 with (fail)
 go_region_held (fun w' => w'.cell? ⟨bg, 0, none⟩ = some (.slice (some ⟨rb, 0, none⟩) n cap) ∧ w'.cell? ⟨w.heap.size, 2, none⟩ = some (.int .i64 m.t) ∧ w'.cell? ⟨w.heap.size, 3, none⟩ = some (.int .i64 m.v)) (first | exact y1 | exact y0)
  (first | (go_at_call 144; refine (addedge_no (w := w1.drew) HC1.out.1 HO1.out HEl.out HER.out HEF.out).mono ?_; rintro e w2 ⟨rfl, hb2⟩; have y1 := three_kept hb2 y0))
 have HB2 : Hid (Below w.heap.size w w2) := HB.out.trans (((Below.refl _ _).drew).trans hb2 |>.mono HB.out.size)
 clear y0 y1 k0 k2 k3 hb2
 all_goals
  go_wp2
  go_ret
  exact ⟨rfl, HB2.out⟩
set_option maxHeartbeats 400000 in
theorem do4_yes {w : World} {base bg : Nat} {sv : Value} {A B : List (Vx × Value)} {x : Vx × Value} {m : Mu} (hg : w.heap[bg]? = some (.cells #[sv] 24 (0, 0))) (h : GW w base sv (A ++ x :: B)) (hbg : bg < base) (hbase : base ≤ w.heap.size) (hf : Fine ((A ++ x :: B).map (·.1))) (hl : (A ++ x :: B).length ≤ 1073741824) (hk : m.k = 4) (hfo : foundB (ids ((A ++ x :: B).map (·.1))) m.i = true) (hfn : findN (ids ((A ++ x :: B).map (·.1))) m.i = A.length) (hel : x.1.es.length ≤ 1073741824) (hef : foundB (ends x.1.es) m.t = false) :
  Calls Tryz.prog 115 #[.pointer (some ⟨bg, 0, none⟩), .agg #[.int .i64 m.k, .int .i64 m.i, .int .i64 m.t, .int .i64 m.v]] w fun e w' => ∃ sv' L', e = .returned (.bool true) ∧ L'.map (·.1) = A.map (·.1) ++ ⟨x.1.id, x.1.val, x.1.es.take (findN (ends x.1.es) m.t) ++ ⟨m.t, m.v⟩ :: x.1.es.drop (findN (ends x.1.es) m.t)⟩ :: B.map (·.1) ∧ w'.heap[bg]? = some (.cells #[sv'] 24 (0, 0)) ∧ GW w' base sv' L' ∧ Fr w w' (fun k => k = bg ∨ GT w base k) := by
 rw [hk]
 obtain ⟨rb, cap, rfl, hrb1, hrb2, hne, hcx, hzx⟩ := gw_slice h
 obtain ⟨ao, cap2, hao, hV⟩ := h.at_
 cases hao
 obtain ⟨n, hn⟩ : ∃ n, (A ++ x :: B).length = n := ⟨_, rfl⟩
 rw [hn] at hg h hl
 have HNn : Hid _ := hn
 obtain ⟨W0, hW0⟩ : ∃ W0, w.alloc (.cells #[.int .i64 4, .int .i64 m.i, .int .i64 m.t, .int .i64 m.v] 195) = W0 := ⟨_, rfl⟩
 have hb0 : Below w.heap.size w W0 := by rw [← hW0]; exact one_new _ _
 have hs0 : W0.heap.size = w.heap.size + 1 := by rw [← hW0, World.size_alloc]
 have hq0 : W0.heap[w.heap.size]? = some (.cells #[.int .i64 4, .int .i64 m.i, .int .i64 m.t, .int .i64 m.v] 195 (0, 0)) := by rw [← hW0]; exact heap_alloc_new _ _
 have hg0 : W0.heap[bg]? = some (.cells #[.slice (some ⟨rb, 0, none⟩) n cap] 24 (0, 0)) := (hb0.block _ (by omega)).trans hg
 have hlm : ((A ++ x :: B).map (·.1)).length = n := (List.length_map _).trans hn
 have HF := fun W (hb : Below W0.heap.size W0 W) => findW_any (w := W) cap m.i ((hV.new hb0).new hb) (by rw [hlm]; exact hl) (rise_pw.2 hf.ids)
 rw [hlm, hfo] at HF
 rw [hfn] at HF
 have x0 : W0.cell? ⟨bg, 0, none⟩ = some (.slice (some ⟨rb, 0, none⟩) n cap) ∧ W0.cell? ⟨w.heap.size, 1, none⟩ = some (.int .i64 m.i) := by constructor <;> simp [World.cell?, hg0, hq0]
 have HQ : Hid _ := hq0
 have HG : Hid _ := hg0
 have HBg : Hid (bg < w.heap.size) := Nat.lt_of_lt_of_le hbg hbase
 have HH : Hid _ := h
 have HC : Hid _ := hcx
 have HZ : Hid _ := hzx
 have HN : Hid (x.2.ownBlock ≠ some rb) := hne
 have HEl : Hid (x.1.es.length ≤ 1073741824) := hel
 have HER : Hid (Rise (ends x.1.es)) := rise_pw.2 (hf.es x.1 (by rw [map_mid]; simp))
 have HEF : Hid (foundB (ends x.1.es) m.t = false) := hef
 have HBase : Hid (base ≤ w.heap.size) := hbase
 have HBb : Hid (bg < base ∧ base ≤ rb ∧ rb < w.heap.size) := ⟨hbg, hrb1, hrb2⟩
 have HXl : Hid (∀ k, x.2.ownBlock = some k → base ≤ k ∧ k < w.heap.size) := (h.eds x (by simp)).lt
 have HXt : Hid (∀ k, x.2.ownBlock = some k → GT w base k) := fun k hk => own_gtE (h.eds x (by simp)) hk
 have HRt : Hid (GT w base rb) := own_gtV h.row rfl
 have hAl : A.length < n := by rw [← hn, List.length_append, List.length_cons]; omega
 clear hn hq0 hg0 hV hfo hfn h hf hg hbg hbase hlm hl hne hrb1 hrb2 hcx hzx hel hef
 go_enter Tryz.func115, Tryz.ntmps115
 go_upto_region 1 with (fail)
 go_region_held (fun w' => w'.cell? ⟨bg, 0, none⟩ = some (.slice (some ⟨rb, 0, none⟩) n cap) ∧ w'.cell? ⟨w.heap.size, 1, none⟩ = some (.int .i64 m.i)) (first | exact x1 | exact x0)
  (first | (go_at_call 99; refine (HF _ ((Below.refl _ _).drew)).mono ?_; rintro e w1 ⟨rfl, hb⟩; have x1 := two_kept hb x0))
 have HB : Hid (Below w.heap.size w w1) := hb0.trans (((Below.refl _ _).drew).trans hb |>.mono hb0.size)
 have hd0 : W0.drew.heap.size = W0.heap.size := rfl
 have hs1 : w.heap.size + 1 ≤ w1.heap.size := by have := hb.size; omega
 have hq1 : w1.heap[w.heap.size]? = some (.cells #[.int .i64 4, .int .i64 m.i, .int .i64 m.t, .int .i64 m.v] 195 (0, 0)) := (hb.block _ (by omega)).trans HQ.out
 have hg1 : w1.heap[bg]? = some (.cells #[.slice (some ⟨rb, 0, none⟩) n cap] 24 (0, 0)) := (hb.block _ (by have := HBg.out; omega)).trans HG.out
 obtain ⟨k0, k1, k2, k3⟩ : w1.cell? ⟨w.heap.size, 0, none⟩ = some (.int .i64 4) ∧ w1.cell? ⟨w.heap.size, 1, none⟩ = some (.int .i64 m.i) ∧ w1.cell? ⟨w.heap.size, 2, none⟩ = some (.int .i64 m.t) ∧ w1.cell? ⟨w.heap.size, 3, none⟩ = some (.int .i64 m.v) := by refine ⟨?_, ?_, ?_, ?_⟩ <;> simp [World.cell?, hq1]
 clear hd0 hq1 hb HF hb0 hW0 hs0 x0 x1
 have hb1 := HB.out
 have hG1 := HH.out.new hb1
 have hc1 := cell_fr (Fr.ofBelow hb1 (fun _ => False)) (fun h => h) HC.out HZ.out
 have HG1 : Hid _ := hG1
 have HC1 : Hid _ := hc1
 have y0 : w1.cell? ⟨bg, 0, none⟩ = some (.slice (some ⟨rb, 0, none⟩) n cap) ∧ w1.cell? ⟨w.heap.size, 2, none⟩ = some (.int .i64 m.t) ∧ w1.cell? ⟨w.heap.size, 3, none⟩ = some (.int .i64 m.v) := ⟨by simp [World.cell?, hg1], k2, k3⟩
 have HO1 : Hid _ := hG1.eds x (by simp)
 have HS1 : Hid (w.heap.size + 1 ≤ w1.heap.size) := hs1
 have HGq : Hid _ := hg1
 clear hG1 hc1 hb1 k1 hg1 HH HC HZ
 go_upto_region 14 with (fail)
 go_region_held (fun w' => w'.cell? ⟨bg, 0, none⟩ = some (.slice (some ⟨rb, 0, none⟩) n cap) ∧ w'.cell? ⟨w.heap.size, 2, none⟩ = some (.int .i64 m.t) ∧ w'.cell? ⟨w.heap.size, 3, none⟩ = some (.int .i64 m.v)) (first | exact y1 | exact y0)
  (first | (go_at_call 144; refine (addedge_yes (w := w1.drew) HC1.out.1 HO1.out HEl.out HER.out HEF.out HC1.out.2 HN.out (by have := HBase.out; have := HS1.out; have e : w1.drew.heap.size = w1.heap.size := rfl; omega)).mono ?_; rintro e w2 ⟨ev, W, rfl, rfl, hv', hfr, ho'⟩; have y1 := three_set (rb := rb) (ev := ev) (o := A.length * 3 + 2) hfr y0 (fun e => by have := (HXl.out _ e).1; have := HBb.out.1; omega) (by have := HBb.out; omega) (fun e => by have := (HXl.out _ e).2; omega) (by have := HBb.out; omega); have HFr : Hid _ := hfr; have HO : Hid _ := ho'; have HV : Hid _ := hv'; clear hfr ho' hv'))
 have hG1' : GW w1 base (.slice (some ⟨rb, 0, none⟩) (A ++ x :: B).length cap) (A ++ x :: B) := by rw [HNn.out]; exact HG1.out
 have hG2 := GW.put (w := w1) hG1' (((Fr.drew w1 (fun _ => False)).mono (fun _ _ h => h.elim)).trans HFr.out (fun _ _ h => h)) HO.out (HV.out)
 have hfr1 : Fr w W (fun k => k = bg ∨ GT w base k) := (Fr.ofBelow HB.out _).trans (((Fr.drew w1 (fun _ => False)).mono (fun _ _ h => h.elim)).trans HFr.out (fun _ _ h => h)) (fun k hk e => Or.inr (HXt.out k e))
 have hfr2 := hfr1.trans (Fr.setCell (S := fun k => k = rb) W ⟨rb, A.length * 3 + 2, none⟩ ev rfl) (fun k _ e => Or.inr (by rw [e]; exact HRt.out))
 have hgW : (W.setCell ⟨rb, A.length * 3 + 2, none⟩ ev).heap[bg]? = some (.cells #[.slice (some ⟨rb, 0, none⟩) n cap] 24 (0, 0)) := (Below.heap_setCell W ⟨rb, _, none⟩ ev bg (by show bg ≠ rb; have := HBb.out; omega)).trans ((HFr.out.block bg (by have := HBg.out; have e : w1.drew.heap.size = w1.heap.size := rfl; have := HS1.out; omega) (fun e => by have := (HXl.out _ e).1; have := HBb.out.1; omega)).trans HGq.out)
 rw [HNn.out] at hG2
 have HG2 : Hid _ := hG2
 have Hfr2 : Hid _ := hfr2
 have HgW : Hid _ := hgW
 clear hG1' hG2 hfr1 hfr2 hgW y0 y1 k0 k2 k3
 all_goals
  go_wp2
  go_ret
  exact ⟨_, _, rfl, map_mid _ _ _, HgW.out, HG2.out, Hfr2.out⟩
end Go.Proofs.YtmgjlamglhpnaaaGreat
