/- mut.do: requests for vertices. -/
import Derived.Test.YtmgjlamglhpnaaaGreatMuDoXM
import Derived.Deep.RegionLaw
import Derived.Test.YtmgjlamglhpnaaaGreatMuFindM
import Derived.Deep.Cut
import Derived.Deep.DeepCutAuto
import Derived.Test.YtmgjlamglhpnaaaGreatMuThatM
namespace Go.Proofs.YtmgjlamglhpnaaaGreat
set_option maxRecDepth 100000
open Go.RowKit
theorem gcs_one {w : World} {base : Nat} {sv : Value} {L : List (Vx × Value)} (h : GW w base sv L) : ∀ u ∈ gcs L, u.oneCell' = true := by
 intro u hu
 unfold gcs at hu
 obtain ⟨y, hy, hu⟩ := List.mem_flatMap.1 hu
 obtain ⟨ao, m, c, e⟩ := own_any (h.eds y hy)
 simp at hu
 rcases hu with rfl | rfl | rfl
 ·rfl
 ·rfl
 ·rw [e]; rfl
theorem insV_new {w : World} {base : Nat} {v : Value} {n : Nat} {xs : List Value} (t x : Int) (h : w.ownsRow base 65 3 v n xs) (h1 : ∀ u ∈ xs, u.oneCell' = true) (i : Nat) (hi : i ≤ n) (hbase : base ≤ w.heap.size) (hbig : n ≤ 1073741824) :
  Calls Tryz.prog 143 #[v, .int .i64 i, .slice (some ⟨w.heap.size, 0, none⟩) 1 1] (w.alloc (.cells #[.int .i64 t, .int .i64 x, .slice none 0 0] 65)).drew fun e w' =>
   ∃ v', e = .returned v' ∧ w'.ownsRow base 65 3 v' (n + 1) (xs.take (i * 3) ++ [.int .i64 t, .int .i64 x, .slice none 0 0] ++ xs.drop (i * 3)) ∧ Fr w w' (fun k => v.ownBlock = some k) := by
 have ho := own_new h (one_new w (.cells #[.int .i64 t, .int .i64 x, .slice none 0 0] 65))
 refine (insV_any (w := (w.alloc (.cells #[.int .i64 t, .int .i64 x, .slice none 0 0] 65)).drew) (vb := w.heap.size) (ys := [.int .i64 t, .int .i64 x, .slice none 0 0]) ho h1 i hi (by show base ≤ (w.alloc _).heap.size; rw [World.size_alloc]; omega) (by omega) (heap_alloc_new w _) rfl (by intro u hu; simp at hu; rcases hu with rfl | rfl | rfl <;> rfl) (fun e => by have := (h.lt _ e).2; omega)).mono ?_
 rintro e w' ⟨v', rfl, hv, ho', hf⟩
 exact ⟨v', rfl, ho', (((Fr.alloc w (.cells #[.int .i64 t, .int .i64 x, .slice none 0 0] 65) (fun _ => False)).trans (Fr.drew _ (fun _ => False)) (fun _ _ h => h)).mono (fun _ _ h => h.elim)).trans hf (fun _ _ h => h)⟩
theorem gcs_del (A B : List (Vx × Value)) (x : Vx × Value) : (gcs (A ++ x :: B)).take (A.length * 3) ++ (gcs (A ++ x :: B)).drop ((A.length + 1) * 3) = gcs (A ++ B) := by
 rw [gcs_take, gcs_drop, List.take_left, show (A ++ x :: B).drop (A.length + 1) = B from by rw [show A ++ x :: B = (A ++ [x]) ++ B by simp, List.drop_left' (by simp)], gcs_app]
theorem gcs_ins (A B : List (Vx × Value)) (i v : Int) : (gcs (A ++ B)).take (A.length * 3) ++ [.int .i64 i, .int .i64 v, .slice none 0 0] ++ (gcs (A ++ B)).drop (A.length * 3) = gcs (A ++ (⟨i, v, []⟩, Value.slice none 0 0) :: B) := by
 rw [gcs_take, gcs_drop, List.take_left, List.drop_left, gcs_app, gcs_cons]
 simp
theorem cl_set1u {w : World} {b : Nat} {t : TypeId} {u0 : Value} (h : w.heap[b]? = some (.cells #[u0] t (0, 0))) (x : Value) : (w.setCell ⟨b, 0, none⟩ x).heap[b]? = some (.cells #[x] t (0, 0)) := (set_heap h 0 x).trans rfl
set_option maxHeartbeats 400000 in
theorem do2_yes {w : World} {base bg : Nat} {sv : Value} {A B : List (Vx × Value)} {x : Vx × Value} {m : Mu} (hg : w.heap[bg]? = some (.cells #[sv] 24 (0, 0))) (h : GW w base sv (A ++ x :: B)) (hbg : bg < base) (hbase : base ≤ w.heap.size) (hf : Fine ((A ++ x :: B).map (·.1))) (hl : (A ++ x :: B).length ≤ 1073741824) (hk : m.k = 2) (hfo : foundB (ids ((A ++ x :: B).map (·.1))) m.i = true) (hfn : findN (ids ((A ++ x :: B).map (·.1))) m.i = A.length) :
  Calls Tryz.prog 115 #[.pointer (some ⟨bg, 0, none⟩), .agg #[.int .i64 m.k, .int .i64 m.i, .int .i64 m.t, .int .i64 m.v]] w fun e w' => ∃ sv' L', e = .returned (.bool true) ∧ L'.map (·.1) = A.map (·.1) ++ B.map (·.1) ∧ w'.heap[bg]? = some (.cells #[sv'] 24 (0, 0)) ∧ GW w' base sv' L' ∧ Fr w w' (fun k => k = bg ∨ GT w base k) := by
 rw [hk]
 obtain ⟨ao, cap, rfl, hV⟩ := h.at_
 obtain ⟨n, hn⟩ : ∃ n, (A ++ x :: B).length = n := ⟨_, rfl⟩
 rw [hn] at hg h hl
 have HNn : Hid _ := hn
 obtain ⟨W0, hW0⟩ : ∃ W0, w.alloc (.cells #[.int .i64 2, .int .i64 m.i, .int .i64 m.t, .int .i64 m.v] 195) = W0 := ⟨_, rfl⟩
 have hb0 : Below w.heap.size w W0 := by rw [← hW0]; exact one_new _ _
 have hs0 : W0.heap.size = w.heap.size + 1 := by rw [← hW0, World.size_alloc]
 have hq0 : W0.heap[w.heap.size]? = some (.cells #[.int .i64 2, .int .i64 m.i, .int .i64 m.t, .int .i64 m.v] 195 (0, 0)) := by rw [← hW0]; exact heap_alloc_new _ _
 have hg0 : W0.heap[bg]? = some (.cells #[.slice ao n cap] 24 (0, 0)) := (hb0.block _ (by omega)).trans hg
 have hlm : ((A ++ x :: B).map (·.1)).length = n := (List.length_map _).trans hn
 have HF := fun W (hb : Below W0.heap.size W0 W) => findW_any (w := W) cap m.i ((hV.new hb0).new hb) (by rw [hlm]; exact hl) (rise_pw.2 hf.ids)
 rw [hlm, hfo] at HF
 rw [hfn] at HF
 obtain ⟨pi, hpi⟩ : ∃ pi : Int, pi = A.length := ⟨_, rfl⟩
 rw [← hpi] at HF
 have hp1 : 0 ≤ pi := by omega
 have hp3 : A.length ≤ n := by rw [← hn, List.length_append]; omega
 have hp2 : pi ≤ 1073741824 := by omega
 clear hp3
 have HPi : Hid (pi = A.length) := hpi
 clear hpi
 have x0 : W0.cell? ⟨bg, 0, none⟩ = some (.slice ao n cap) ∧ W0.cell? ⟨w.heap.size, 1, none⟩ = some (.int .i64 m.i) := by constructor <;> simp [World.cell?, hg0, hq0]
 have HQ : Hid _ := hq0
 have HG : Hid _ := hg0
 have HBg : Hid (bg < w.heap.size) := Nat.lt_of_lt_of_le hbg hbase
 have HH : Hid _ := h
 have HLen : Hid (n ≤ 1073741824) := hl
 have HNt : Hid (∀ k, (Value.slice ao n cap).ownBlock = some k → GT w base k) := fun k hk => own_gtV h.row hk
 have hAl0 : A.length < n := by rw [← hn, List.length_append, List.length_cons]; omega
 have HAl : Hid _ := hAl0
 clear hAl0
 have HBase : Hid (base ≤ w.heap.size) := hbase
 have HBb : Hid (bg < base) := hbg
 clear hn hq0 hg0 hV hfo hfn h hf hg hbg hbase hlm hl
 go_enter Tryz.func115, Tryz.ntmps115
 go_upto_region 1 with (fail)
 go_region_held (fun w' => w'.cell? ⟨bg, 0, none⟩ = some (.slice ao n cap) ∧ w'.cell? ⟨w.heap.size, 1, none⟩ = some (.int .i64 m.i)) (first | exact x1 | exact x0)
  (first | (go_at_call 99; refine (HF _ ((Below.refl _ _).drew)).mono ?_; rintro e w1 ⟨rfl, hb⟩; have x1 := two_kept hb x0))
 have HB : Hid (Below w.heap.size w w1) := hb0.trans (((Below.refl _ _).drew).trans hb |>.mono hb0.size)
 have hd0 : W0.drew.heap.size = W0.heap.size := rfl
 have hs1 : w.heap.size + 1 ≤ w1.heap.size := by have := hb.size; omega
 have hq1 : w1.heap[w.heap.size]? = some (.cells #[.int .i64 2, .int .i64 m.i, .int .i64 m.t, .int .i64 m.v] 195 (0, 0)) := (hb.block _ (by omega)).trans HQ.out
 have hg1 : w1.heap[bg]? = some (.cells #[.slice ao n cap] 24 (0, 0)) := (hb.block _ (by have := HBg.out; omega)).trans HG.out
 obtain ⟨k0, k1, k2, k3⟩ : w1.cell? ⟨w.heap.size, 0, none⟩ = some (.int .i64 2) ∧ w1.cell? ⟨w.heap.size, 1, none⟩ = some (.int .i64 m.i) ∧ w1.cell? ⟨w.heap.size, 2, none⟩ = some (.int .i64 m.t) ∧ w1.cell? ⟨w.heap.size, 3, none⟩ = some (.int .i64 m.v) := by refine ⟨?_, ?_, ?_, ?_⟩ <;> simp [World.cell?, hq1]
 clear hd0 hq1 hb HF hb0 hW0 hs0 x0 x1
 have hb1 := HB.out
 have hG1 := HH.out.new hb1
 have c1 : w1.cell? ⟨bg, 0, none⟩ = some (.slice ao n cap) := by simp [World.cell?, hg1]
 have z1 : w1.frozen? ⟨bg, 0, none⟩ = false := by simp [World.frozen?, hg1]
 have HC1 : Hid _ := And.intro c1 z1
 have ho1 := hG1.row
 rw [HNn.out] at ho1
 have HO1 : Hid _ := ho1
 have HOne : Hid _ := gcs_one hG1
 have HG1 : Hid _ := hG1
 have HS1 : Hid (w.heap.size + 1 ≤ w1.heap.size) := hs1
 have HGq : Hid _ := hg1
 have hlt1 : bg < w1.heap.size := by have := HBg.out; omega
 have hlt2 : w.heap.size < w1.heap.size := by omega
 have HNe : Hid (∀ k, (Value.slice ao n cap).ownBlock = some k → base ≤ k) := fun k hk => (ho1.lt k hk).1
 clear hG1 hb1 hg1 HH ho1
 go_wp2_with (first | (go_at_call 142; refine (delV_at HO1.out HOne.out A.length HAl.out HPi.out).mono ?_; rintro e w2 ⟨v', rfl, hv', ho', hf'⟩; obtain ⟨ao', m', c', rfl⟩ := own_any ho'; have h2 := cell_fr hf' (fun e => by have := HNe.out _ e; have := HBb.out; omega) HC1.out.1 HC1.out.2; have c2 := h2.1; have z2 := h2.2; have HO2 : Hid _ := ho'; have HFr : Hid _ := hf'; clear ho' hf'))
 all_goals
  have hlen : n - 1 = (A ++ B).length := by rw [← HNn.out]; simp <;> omega
  have ho2 := HO2.out
  rw [gcs_del, hlen] at ho2
  have hG2 := HG1.out.del HFr.out ho2
  have hfr1 : Fr w w2 (fun k => k = bg ∨ GT w base k) := (Fr.ofBelow HB.out _).trans HFr.out (fun k hk e => Or.inr (HNt.out k e))
  have hgW : w2.heap[bg]? = some (.cells #[.slice ao n cap] 24 (0, 0)) := (HFr.out.block bg hlt1 (fun e => by have := HNe.out _ e; have := HBb.out; omega)).trans HGq.out
  have fs := Fr.setCell (S := fun k => k = bg) w2 ⟨bg, 0, none⟩ (.slice ao' m' c') rfl
  have hG3 := hG2.keep fs (fun k e => by have := HBb.out; omega)
  have hgS := cl_set1u hgW (.slice ao' m' c')
  have hfr2 := hfr1.trans fs (fun k _ e => Or.inl e)
  have HG3 : Hid _ := hG3
  have HgS : Hid _ := hgS
  have Hfr2 : Hid _ := hfr2
  clear hG2 hG3 hgS hfr1 hfr2 fs hgW hlen ho2
  go_wp2
  go_ret
  exact ⟨_, _, rfl, by simp, HgS.out, HG3.out, Hfr2.out⟩
set_option maxHeartbeats 400000 in
theorem do3_yes {w : World} {base bg : Nat} {sv : Value} {A B : List (Vx × Value)}  {m : Mu} (hg : w.heap[bg]? = some (.cells #[sv] 24 (0, 0))) (h : GW w base sv (A ++ B)) (hbg : bg < base) (hbase : base ≤ w.heap.size) (hf : Fine ((A ++ B).map (·.1))) (hl : (A ++ B).length ≤ 1073741824) (hk : m.k = 3) (hfo : foundB (ids ((A ++ B).map (·.1))) m.i = false) (hfn : findN (ids ((A ++ B).map (·.1))) m.i = A.length) :
  Calls Tryz.prog 115 #[.pointer (some ⟨bg, 0, none⟩), .agg #[.int .i64 m.k, .int .i64 m.i, .int .i64 m.t, .int .i64 m.v]] w fun e w' => ∃ sv' L', e = .returned (.bool true) ∧ L'.map (·.1) = A.map (·.1) ++ ⟨m.i, m.v, []⟩ :: B.map (·.1) ∧ w'.heap[bg]? = some (.cells #[sv'] 24 (0, 0)) ∧ GW w' base sv' L' ∧ Fr w w' (fun k => k = bg ∨ GT w base k) := by
 rw [hk]
 obtain ⟨ao, cap, rfl, hV⟩ := h.at_
 obtain ⟨n, hn⟩ : ∃ n, (A ++ B).length = n := ⟨_, rfl⟩
 rw [hn] at hg h hl
 have HNn : Hid _ := hn
 obtain ⟨W0, hW0⟩ : ∃ W0, w.alloc (.cells #[.int .i64 3, .int .i64 m.i, .int .i64 m.t, .int .i64 m.v] 195) = W0 := ⟨_, rfl⟩
 have hb0 : Below w.heap.size w W0 := by rw [← hW0]; exact one_new _ _
 have hs0 : W0.heap.size = w.heap.size + 1 := by rw [← hW0, World.size_alloc]
 have hq0 : W0.heap[w.heap.size]? = some (.cells #[.int .i64 3, .int .i64 m.i, .int .i64 m.t, .int .i64 m.v] 195 (0, 0)) := by rw [← hW0]; exact heap_alloc_new _ _
 have hg0 : W0.heap[bg]? = some (.cells #[.slice ao n cap] 24 (0, 0)) := (hb0.block _ (by omega)).trans hg
 have hlm : ((A ++ B).map (·.1)).length = n := (List.length_map _).trans hn
 have HF := fun W (hb : Below W0.heap.size W0 W) => findW_any (w := W) cap m.i ((hV.new hb0).new hb) (by rw [hlm]; exact hl) (rise_pw.2 hf.ids)
 rw [hlm, hfo] at HF
 rw [hfn] at HF
 obtain ⟨pi, hpi⟩ : ∃ pi : Int, pi = A.length := ⟨_, rfl⟩
 rw [← hpi] at HF
 have hp1 : 0 ≤ pi := by omega
 have hp3 : A.length ≤ n := by rw [← hn, List.length_append]; omega
 have hp2 : pi ≤ 1073741824 := by omega
 clear hp3
 have HPi : Hid (pi = A.length) := hpi
 clear hpi
 have x0 : W0.cell? ⟨bg, 0, none⟩ = some (.slice ao n cap) ∧ W0.cell? ⟨w.heap.size, 1, none⟩ = some (.int .i64 m.i) := by constructor <;> simp [World.cell?, hg0, hq0]
 have HQ : Hid _ := hq0
 have HG : Hid _ := hg0
 have HBg : Hid (bg < w.heap.size) := Nat.lt_of_lt_of_le hbg hbase
 have HH : Hid _ := h
 have HLen : Hid (n ≤ 1073741824) := hl
 have HNt : Hid (∀ k, (Value.slice ao n cap).ownBlock = some k → GT w base k) := fun k hk => own_gtV h.row hk
 have hAl0 : A.length ≤ n := by rw [← hn, List.length_append]; omega
 have HAl : Hid _ := hAl0
 clear hAl0
 have HBase : Hid (base ≤ w.heap.size) := hbase
 have HBb : Hid (bg < base) := hbg
 clear hn hq0 hg0 hV hfo hfn h hf hg hbg hbase hlm hl
 go_enter Tryz.func115, Tryz.ntmps115
 go_upto_region 1 with (fail)
 go_region_held (fun w' => w'.cell? ⟨bg, 0, none⟩ = some (.slice ao n cap) ∧ w'.cell? ⟨w.heap.size, 1, none⟩ = some (.int .i64 m.i)) (first | exact x1 | exact x0)
  (first | (go_at_call 99; refine (HF _ ((Below.refl _ _).drew)).mono ?_; rintro e w1 ⟨rfl, hb⟩; have x1 := two_kept hb x0))
 have HB : Hid (Below w.heap.size w w1) := hb0.trans (((Below.refl _ _).drew).trans hb |>.mono hb0.size)
 have hd0 : W0.drew.heap.size = W0.heap.size := rfl
 have hs1 : w.heap.size + 1 ≤ w1.heap.size := by have := hb.size; omega
 have hq1 : w1.heap[w.heap.size]? = some (.cells #[.int .i64 3, .int .i64 m.i, .int .i64 m.t, .int .i64 m.v] 195 (0, 0)) := (hb.block _ (by omega)).trans HQ.out
 have hg1 : w1.heap[bg]? = some (.cells #[.slice ao n cap] 24 (0, 0)) := (hb.block _ (by have := HBg.out; omega)).trans HG.out
 obtain ⟨k0, k1, k2, k3⟩ : w1.cell? ⟨w.heap.size, 0, none⟩ = some (.int .i64 3) ∧ w1.cell? ⟨w.heap.size, 1, none⟩ = some (.int .i64 m.i) ∧ w1.cell? ⟨w.heap.size, 2, none⟩ = some (.int .i64 m.t) ∧ w1.cell? ⟨w.heap.size, 3, none⟩ = some (.int .i64 m.v) := by refine ⟨?_, ?_, ?_, ?_⟩ <;> simp [World.cell?, hq1]
 clear hd0 hq1 hb HF hb0 hW0 hs0 x0 x1
 have hb1 := HB.out
 have hG1 := HH.out.new hb1
 have c1 : w1.cell? ⟨bg, 0, none⟩ = some (.slice ao n cap) := by simp [World.cell?, hg1]
 have z1 : w1.frozen? ⟨bg, 0, none⟩ = false := by simp [World.frozen?, hg1]
 have HC1 : Hid _ := And.intro c1 z1
 have ho1 := hG1.row
 rw [HNn.out] at ho1
 have HO1 : Hid _ := ho1
 have HOne : Hid _ := gcs_one hG1
 have HG1 : Hid _ := hG1
 have HS1 : Hid (w.heap.size + 1 ≤ w1.heap.size) := hs1
 have HGq : Hid _ := hg1
 have hlt1 : bg < w1.heap.size := by have := HBg.out; omega
 have hlt2 : w.heap.size < w1.heap.size := by omega
 have HNe : Hid (∀ k, (Value.slice ao n cap).ownBlock = some k → base ≤ k) := fun k hk => (ho1.lt k hk).1
 clear hG1 hb1 hg1 HH ho1
 go_upto_region 11 with (fail)
 go_region_law (first | (go_simp; go_at_call 143; rw [HPi.out]; refine (insV_new m.i m.v HO1.out HOne.out A.length HAl.out (by have := HBase.out; have := HS1.out; omega) HLen.out).mono ?_; rintro e w2 ⟨v', rfl, ho', hf'⟩; obtain ⟨ao', m', c', rfl⟩ := own_any ho'; have h2 := cell_fr hf' (fun e => by have := HNe.out _ e; have := HBb.out; omega) HC1.out.1 HC1.out.2; have c2 := h2.1; have z2 := h2.2; have HO2 : Hid _ := ho'; have HFr : Hid _ := hf'; clear ho' hf'))
 all_goals
  have hlen : n + 1 = (A ++ ((⟨m.i, m.v, []⟩ : Vx), Value.slice none 0 0) :: B).length := by rw [← HNn.out]; simp <;> omega
  have ho2 := HO2.out
  rw [gcs_ins, hlen] at ho2
  have hG2 := GW.ins (v := ⟨m.i, m.v, []⟩) HG1.out HFr.out rfl ho2
  have hfr1 : Fr w w2 (fun k => k = bg ∨ GT w base k) := (Fr.ofBelow HB.out _).trans HFr.out (fun k hk e => Or.inr (HNt.out k e))
  have hgW : w2.heap[bg]? = some (.cells #[.slice ao n cap] 24 (0, 0)) := (HFr.out.block bg hlt1 (fun e => by have := HNe.out _ e; have := HBb.out; omega)).trans HGq.out
  have fs := Fr.setCell (S := fun k => k = bg) w2 ⟨bg, 0, none⟩ (.slice ao' m' c') rfl
  have hG3 := hG2.keep fs (fun k e => by have := HBb.out; omega)
  have hgS := cl_set1u hgW (.slice ao' m' c')
  have hfr2 := hfr1.trans fs (fun k _ e => Or.inl e)
  have HG3 : Hid _ := hG3
  have HgS : Hid _ := hgS
  have Hfr2 : Hid _ := hfr2
  clear hG2 hG3 hgS hfr1 hfr2 fs hgW hlen ho2
  go_wp2
  go_ret
  exact ⟨_, _, rfl, by simp, HgS.out, HG3.out, Hfr2.out⟩
section
open Go.RowKit
theorem do_same {w w' : World} {base bg : Nat} {sv : Value} {L : List (Vx × Value)} (hg : w.heap[bg]? = some (.cells #[sv] 24 (0, 0))) (h : GW w base sv L) (hb : Below w.heap.size w w') : w'.heap[bg]? = some (.cells #[sv] 24 (0, 0)) ∧ GW w' base sv L ∧ Fr w w' (fun k => k = bg ∨ GT w base k) :=
 ⟨(hb.block _ (Array.getElem?_eq_some_iff.1 hg).1).trans hg, h.new hb, Fr.ofBelow hb _⟩
theorem do_any {w : World} {base bg : Nat} {sv : Value} {L : List (Vx × Value)} {m : Mu} (hg : w.heap[bg]? = some (.cells #[sv] 24 (0, 0))) (h : GW w base sv L) (hbg : bg < base) (hbase : base ≤ w.heap.size) (hf : Fine (L.map (·.1))) {N : Nat} (hu : Up N (L.map (·.1))) (hN : N ≤ 1073741824) (hk : 1 ≤ m.k ∧ m.k ≤ 4) :
  Calls Tryz.prog 115 #[.pointer (some ⟨bg, 0, none⟩), .agg #[.int .i64 m.k, .int .i64 m.i, .int .i64 m.t, .int .i64 m.v]] w fun e w' => ∃ sv' L', e = .returned (.bool (doG (L.map (·.1)) m).2) ∧ L'.map (·.1) = (doG (L.map (·.1)) m).1 ∧ w'.heap[bg]? = some (.cells #[sv'] 24 (0, 0)) ∧ GW w' base sv' L' ∧ Fr w w' (fun k => k = bg ∨ GT w base k) := by
 have hl : L.length ≤ 1073741824 := by have := hu.1; rw [List.length_map] at this; omega
 have hkk : m.k = 1 ∨ m.k = 2 ∨ m.k = 3 ∨ m.k = 4 := by omega
 rcases split_ids hf.ids m.i with ⟨A', v, B', h1, h2, h3, h4, h5, h6⟩ | ⟨A', B', h1, h3, h4, h5, h6⟩
 ·obtain ⟨A, R, rfl, rfl, hR⟩ := List.map_eq_append_iff.1 h1
  obtain ⟨x, B, rfl, rfl, rfl⟩ := List.map_eq_cons_iff.1 hR
  rw [List.length_map] at h5
  have hel : x.1.es.length ≤ 1073741824 := by have := hu.2 x.1 (by rw [map_mid]; simp); omega
  have hD : doG ((A ++ x :: B).map (·.1)) m = (A.map (·.1) ++ ((doV x.1 m).1 ++ B.map (·.1)), (doV x.1 m).2) := by rw [map_mid]; exact doG_there h2 h3 h4
  rw [hD]
  rcases hkk with hk | hk | hk | hk
  ·cases he : foundB (ends x.1.es) m.t
   ·have e : doV x.1 m = ([x.1], false) := by unfold doV; rw [hk]; simp [he]
    refine (do1_same hg h hbg hbase hf hl hk h6 h5 hel he).mono ?_
    rintro r w' ⟨rfl, hb⟩
    rw [e]
    exact ⟨sv, A ++ x :: B, rfl, by rw [map_mid]; rfl, do_same hg h hb⟩
   ·have e : doV x.1 m = ([⟨x.1.id, x.1.val, x.1.es.take (findN (ends x.1.es) m.t) ++ x.1.es.drop (findN (ends x.1.es) m.t + 1)⟩], true) := by unfold doV; rw [hk]; simp [he]
    refine (do1_yes hg h hbg hbase hf hl hk h6 h5 hel he).mono ?_
    rintro r w' ⟨sv', L', rfl, q1, q2, q3, q4⟩
    rw [e]
    exact ⟨sv', L', rfl, q1, q2, q3, q4⟩
  ·have e : doV x.1 m = ([], true) := by unfold doV; rw [hk]; simp
   refine (do2_yes hg h hbg hbase hf hl hk h6 h5).mono ?_
   rintro r w' ⟨sv', L', rfl, q1, q2, q3, q4⟩
   rw [e]
   exact ⟨sv', L', rfl, q1, q2, q3, q4⟩
  ·have e : doV x.1 m = ([x.1], false) := by unfold doV; rw [hk]; simp
   refine (do3_no hg h hbg hbase hf hl hk h6).mono ?_
   rintro r w' ⟨rfl, hb⟩
   rw [e]
   exact ⟨sv, A ++ x :: B, rfl, by rw [map_mid]; rfl, do_same hg h hb⟩
  ·cases he : foundB (ends x.1.es) m.t
   ·have e : doV x.1 m = ([⟨x.1.id, x.1.val, x.1.es.take (findN (ends x.1.es) m.t) ++ ⟨m.t, m.v⟩ :: x.1.es.drop (findN (ends x.1.es) m.t)⟩], true) := by unfold doV; rw [hk]; simp [he]
    refine (do4_yes hg h hbg hbase hf hl hk h6 h5 hel he).mono ?_
    rintro r w' ⟨sv', L', rfl, q1, q2, q3, q4⟩
    rw [e]
    exact ⟨sv', L', rfl, q1, q2, q3, q4⟩
   ·have e : doV x.1 m = ([x.1], false) := by unfold doV; rw [hk]; simp [he]
    refine (do4_same hg h hbg hbase hf hl hk h6 h5 hel he).mono ?_
    rintro r w' ⟨rfl, hb⟩
    rw [e]
    exact ⟨sv, A ++ x :: B, rfl, by rw [map_mid]; rfl, do_same hg h hb⟩
 ·obtain ⟨A, B, rfl, rfl, rfl⟩ := List.map_eq_append_iff.1 h1
  rw [List.length_map] at h5
  have hD : doG ((A ++ B).map (·.1)) m = (A.map (·.1) ++ ((noV m).1 ++ B.map (·.1)), (noV m).2) := by rw [List.map_append]; exact doG_none h3 h4
  rw [hD]
  rcases hkk with hk | hk | hk | hk
  ·have e : noV m = ([], false) := by unfold noV; rw [hk]; simp
   refine (do1_no hg h hbg hbase hf hl hk h6).mono ?_
   rintro r w' ⟨rfl, hb⟩
   rw [e]
   exact ⟨sv, A ++ B, rfl, by simp, do_same hg h hb⟩
  ·have e : noV m = ([], false) := by unfold noV; rw [hk]; simp
   refine (do2_no hg h hbg hbase hf hl hk h6).mono ?_
   rintro r w' ⟨rfl, hb⟩
   rw [e]
   exact ⟨sv, A ++ B, rfl, by simp, do_same hg h hb⟩
  ·have e : noV m = ([⟨m.i, m.v, []⟩], true) := by unfold noV; rw [hk]; simp
   refine (do3_yes hg h hbg hbase hf hl hk h6 h5).mono ?_
   rintro r w' ⟨sv', L', rfl, q1, q2, q3, q4⟩
   rw [e]
   exact ⟨sv', L', rfl, q1, q2, q3, q4⟩
  ·have e : noV m = ([], false) := by unfold noV; rw [hk]; simp
   refine (do4_no hg h hbg hbase hf hl hk h6).mono ?_
   rintro r w' ⟨rfl, hb⟩
   rw [e]
   exact ⟨sv, A ++ B, rfl, by simp, do_same hg h hb⟩
end
section
open Go.RowKit
theorem own_low {w : World} {base base' : Nat} {e : TypeId} {size : Nat} {v : Value} {n : Nat} {xs : List Value} (h : w.ownsRow base e size v n xs) (hb : base' ≤ base) : w.ownsRow base' e size v n xs := by
 refine ⟨h.1, ?_⟩
 rcases h.2 with hn | ⟨g, cap, cur, h1, h2, rest⟩
 ·exact .inl hn
 ·exact .inr ⟨g, cap, cur, h1, by omega, rest⟩
theorem GW.low {w : World} {base base' : Nat} {sv : Value} {L : List (Vx × Value)} (h : GW w base sv L) (hb : base' ≤ base) : GW w base' sv L := ⟨own_low h.row hb, fun x hx => own_low (h.eds x hx) hb, h.apart⟩
theorem GW.app {w w1 : World} {base : Nat} {sv sv' : Value} {L : List (Vx × Value)} {y : Vx} {ev : Value} (h : GW w base sv L) (he : w.ownsRow base 62 2 ev y.es.length (ecs y.es)) (ha : ∀ x ∈ L, ∀ k, x.2.ownBlock = some k → ev.ownBlock ≠ some k)
  (ho : w1.ownsRow base 65 3 sv' (L.length + 1) (gcs L ++ [.int .i64 y.id, .int .i64 y.val, ev])) (hg : w.grownBy w1 sv.ownBlock) : GW w1 base sv' (L ++ [(y, ev)]) := by
 have f : Fr w w1 (fun k => sv.ownBlock = some k) := Fr.grown hg (fun k hk => hk)
 refine ⟨?_, fun x hx => ?_, ?_⟩
 ·rw [List.length_append, gcs_app]
  exact ho
 ·rcases List.mem_append.1 hx with hx | hx
  ·exact own_keep (h.eds x hx) f (fun k hk e => own_diff h.row (h.eds x hx) (by decide) k hk e)
  ·rw [List.mem_singleton] at hx
   subst hx
   exact own_keep he f (fun k hk e => own_diff h.row he (by decide) k hk e)
 ·rw [List.pairwise_append]
  exact ⟨h.apart, List.pairwise_singleton _ _, fun x hx z hz => by rw [List.mem_singleton] at hz; subst hz; exact ha x hx⟩
theorem clonesW_any {w : World} {P : Nat → Prop} {ao : Option Addr} (L : List Ed) (cap : Nat) (h : EdAt w P ao L) (hl : L.length ≤ 8796093022208) :
  Calls Tryz.prog 121 #[.slice ao L.length cap] w fun r w' => ∃ v, r = .returned v ∧ w'.ownsRow w.heap.size 62 2 v L.length (ecs L) ∧ Below w.heap.size w w' := by
 obtain ⟨i0, hi, hz0, hz1, hz2⟩ := info_parts infoEdge
 cases ao with
 | none =>
  have hL : L = [] := List.eq_nil_of_length_eq_zero (Nat.eq_zero_of_not_pos (fun hp => by obtain ⟨b, off, e, _⟩ := h hp; cases e))
  subst hL
  have hq := nil_eq
  go_enter Tryz.func121, Tryz.ntmps121
  go_wp2
  go_ret
  exact ⟨_, rfl, World.ownsRow_nil _ _ _ _, Below.refl _ _⟩
 | some ad =>
  have HN : Hid (∀ j u, (ecs L)[j]? = some u → (w.alloc (.cells #[] 62)).cell? (ad.add j) = some u) := ecs_cell (h.new (one_new _ _))
  have HO : Hid _ := own_empty (w := w) (base := w.heap.size) (t := 62) (size := 2) (Nat.le_refl _)
  clear h
  have hq := nil_ne
  go_enter Tryz.func121, Tryz.ntmps121
  go_wp2_with (at_builtin; refine wpList_append_own_at _ rfl _ _ 63 rfl w.heap.size 62 i0 (.agg #[.int .i64 0, .int .i64 0]) 2 16 Tryz.underlying63 hi hz0 hz1 hz2 rfl (by decide) _ _ _ rfl HO.out ad L.length cap (ecs L) rfl (ecs_len L) HN.out (ecs_one L) (by unfold maxLen; omega) (by omega) (by simp) ?_)
  intro v' w1 hown hgrow _ _
  obtain ⟨bo, m, c, rfl⟩ := own_any hown
  have HOw : Hid _ := hown
  clear hown
  have hb : Below w.heap.size w w1 := (one_new w _).trans ((Fr.grown (S := fun k => k = w.heap.size) hgrow (fun k hk => by cases hk; rfl)).below (by simp) (fun k hk => by omega))
  go_wp2
  go_ret
  exact ⟨_, rfl, HOw.out, hb⟩
theorem clonevW_any {w : World} {P : Nat → Prop} {eo : Option Addr} (x : Vx) (ec : Nat) (h : EdAt w P eo x.es) (hl : x.es.length ≤ 8796093022208) :
  Calls Tryz.prog 102 #[.agg #[.int .i64 x.id, .int .i64 x.val, .slice eo x.es.length ec]] w fun r w' => ∃ ev, r = .returned (.agg #[.int .i64 x.id, .int .i64 x.val, ev]) ∧ w'.ownsRow w.heap.size 62 2 ev x.es.length (ecs x.es) ∧ Below w.heap.size w w' := by
 have HE : Hid (∀ W, Below w.heap.size w W → EdAt W P eo x.es) := fun W hb => h.new hb
 have HB : Hid (Below w.heap.size w ((w.alloc (.cells #[.int .i64 x.id, .int .i64 x.val, .slice eo x.es.length ec] 65)).alloc (.cells #[.int .i64 0, .int .i64 0, .slice none 0 0] 65))) := b2 _ _ _
 have X1 : Hid (((w.alloc (.cells #[.int .i64 x.id, .int .i64 x.val, .slice eo x.es.length ec] 65)).alloc (.cells #[.int .i64 0, .int .i64 0, .slice none 0 0] 65)).heap[w.heap.size]? = some (.cells #[.int .i64 x.id, .int .i64 x.val, .slice eo x.es.length ec] 65 (0, 0))) := (Below.heap_alloc _ _ _ (by simp)).trans (heap_alloc_new _ _)
 have X2 : Hid (((w.alloc (.cells #[.int .i64 x.id, .int .i64 x.val, .slice eo x.es.length ec] 65)).alloc (.cells #[.int .i64 0, .int .i64 0, .slice none 0 0] 65)).heap[w.heap.size + 1]? = some (.cells #[.int .i64 0, .int .i64 0, .slice none 0 0] 65 (0, 0))) := by
  have := heap_alloc_new (w.alloc (.cells #[.int .i64 x.id, .int .i64 x.val, .slice eo x.es.length ec] 65)) (.cells #[.int .i64 0, .int .i64 0, .slice none 0 0] 65)
  rw [World.size_alloc] at this
  exact this
 clear h
 go_enter Tryz.func102, Tryz.ntmps102
 go_wp2_with (go_at_call 121; refine (clonesW_any x.es ec (HE.out _ HB.out) hl).mono ?_; rintro r w1 ⟨ev, rfl, hE1, hb1⟩; obtain ⟨bo, mm, c, rfl⟩ := own_any hE1; have HE1 : Hid _ := hE1; clear hE1; have y1 := (hb1.block _ (lt_of_block X1.out)).trans X1.out; have y2 := (hb1.block _ (lt_of_block X2.out)).trans X2.out; obtain ⟨p0, p1, p2⟩ := box3 y1; have p3 := froz (o := 2) y1; obtain ⟨q0, q1, q2⟩ := box3 y2; have q3 := froz (o := 0) y2; have q4 := froz (o := 1) y2; have q5 := froz (o := 2) y2; have Y1 : Hid _ := y1; have Y2 : Hid _ := y2; clear y1 y2)
 have hB1 : Below w.heap.size w w1 := HB.out.trans (hb1.mono HB.out.size)
 generalize hW : World.setCell _ _ _ = W
 have f1 : Fr w1 W (fun k => k = w.heap.size ∨ k = w.heap.size + 1) := by
  rw [← hW]
  have hs1 : ∀ (w' : World) (o : Nat) (u : Value), Fr w' (w'.setCell ⟨w.heap.size, o, none⟩ u) (fun k => k = w.heap.size ∨ k = w.heap.size + 1) := fun w' o u => Fr.setCell (S := fun k => k = w.heap.size ∨ k = w.heap.size + 1) w' ⟨w.heap.size, o, none⟩ u (Or.inl rfl)
  have hs2 : ∀ (w' : World) (o : Nat) (u : Value), Fr w' (w'.setCell ⟨w.heap.size + 1, o, none⟩ u) (fun k => k = w.heap.size ∨ k = w.heap.size + 1) := fun w' o u => Fr.setCell (S := fun k => k = w.heap.size ∨ k = w.heap.size + 1) w' ⟨w.heap.size + 1, o, none⟩ u (Or.inr rfl)
  exact (((hs1 _ _ _).trans (hs2 _ _ _) (fun _ _ h => h)).trans (hs2 _ _ _) (fun _ _ h => h)).trans (hs2 _ _ _) (fun _ _ h => h)
 have b1 : W.heap[w.heap.size + 1]? = some (.cells #[.int .i64 x.id, .int .i64 x.val, .slice bo mm c] 65 (0, 0)) := by
  rw [← hW]
  have h0 : (w1.setCell ⟨w.heap.size, 2, none⟩ (.slice bo mm c)).heap[w.heap.size + 1]? = some (.cells #[.int .i64 0, .int .i64 0, .slice none 0 0] 65 (0, 0)) := (Below.heap_setCell w1 ⟨w.heap.size, 2, none⟩ _ (w.heap.size + 1) (by show w.heap.size + 1 ≠ w.heap.size; omega)).trans Y2.out
  exact cl_set3 h0 _ _ _
 refine bodyPost_ret (v := .agg #[.int .i64 x.id, .int .i64 x.val, .slice bo mm c]) (results_cell_row Tryz.results102 _ _ (w.heap.size + 1) 65 _ (0, 0) _ rfl b1 Tryz.underlying65 rfl sizeVx) rfl ?_
 have hz1 := lt_of_block X2.out
 exact ⟨_, rfl, own_keep (own_low HE1.out (by have := HB.out.size; omega)) f1 (fun k hk e => by have := (World.ownsRow.lt HE1.out k hk).1; have := HB.out.size; rcases e with e | e <;> omega), hB1.trans (f1.below hB1.size (fun k hk => by omega))⟩
theorem cl_oneW {W : World} {b : Nat} {t : TypeId} {u0 : Value} (h : W.heap[b]? = some (.cells #[u0] t (0, 0))) : W.cell? ⟨b, 0, none⟩ = some u0 ∧ W.frozen? ⟨b, 0, none⟩ = false := by
 refine ⟨?_, froz h⟩
 simp [World.cell?, h]
theorem cl_set1W {w : World} {b : Nat} {t : TypeId} {u0 : Value} (h : w.heap[b]? = some (.cells #[u0] t (0, 0))) (x : Value) : (w.setCell ⟨b, 0, none⟩ x).heap[b]? = some (.cells #[x] t (0, 0)) := by
 have hlt := lt_of_block h
 have h' : w.heap[b] = .cells #[u0] t (0, 0) := by simpa [Array.getElem?_eq_getElem hlt] using h
 show (w.heap.modify b _)[b]? = _
 rw [Array.getElem?_eq_getElem (by simpa using hlt), Array.getElem_modify_self, h']
 rfl
theorem sizeGrW : (Tryz.prog.info? 24).map (·.size) = some 1 := by kernel_rfl
set_option maxHeartbeats 1000000 in
theorem cloneW_any {w : World} {P : Nat → Prop} {ao : Option Addr} (G : List Vx) (cap : Nat) (h : VxAt w P ao G) (hok : ∀ v ∈ G, v.ok) (hl : G.length * 40 ≤ 140737488355328) :
  Calls Tryz.prog 80 #[.agg #[.slice ao G.length cap]] w fun r w' => ∃ sv L, r = .returned (.agg #[sv]) ∧ L.map (·.1) = G ∧ GW w' w.heap.size sv L ∧ Below w.heap.size w w' := by
 obtain ⟨i0, hi, hz0, hz1, hz2⟩ := info_parts mInfoV
 have HG : Hid (VxAt w P ao G) := h
 have HOk : Hid (∀ v ∈ G, v.ok) := hok
 clear h hok
 go_enter Tryz.func80, Tryz.ntmps80
 go_wp2
 go_loopw [3, 9] (fun u i wr => ∃ (j : Nat) (fo : Option Addr) (m c : Nat), j ≤ G.length ∧ u = .slice fo m c ∧ i = .int .i64 j ∧ (∃ L, L.map (·.1) = G.take j ∧ GW wr (w.heap.size + 1 + 1) (.slice fo m c) L) ∧ wr.heap[w.heap.size + 1]? = some (.cells #[.slice none 0 0] 24 (0, 0)) ∧ Below w.heap.size w wr) (fun _ i _ => G.length - (intOf i).toNat)
 case atStart =>
  refine ⟨0, none, 0, 0, Nat.zero_le _, rfl, rfl, ⟨[], rfl, ⟨World.ownsRow_nil _ _ _ _, fun x hx => (by cases hx), List.Pairwise.nil⟩⟩, ?_, b2 _ _ _⟩
  have := heap_alloc_new (w.alloc (.cells #[.slice ao G.length cap] 24)) (.cells #[.slice none 0 0] 24)
  rw [World.size_alloc] at this
  exact this
 case round =>
  obtain ⟨j, fo, m, c, hj, rfl, rfl, ⟨L, hL, hR⟩, hq, hb⟩ := hrel
  have hLl : L.length = j := by have := congrArg List.length hL; rw [List.length_map, List.length_take] at this; omega
  by_cases hlt : j < G.length
  ·obtain ⟨b, off, rfl, hP, hc⟩ := HG.out (by omega)
   obtain ⟨eo, ec, e0, e1, e2, e3⟩ := hc j hlt
   have hbb := lt_cell e0
   have d0 := (hb.cell (p := ⟨b, off + j * 3, none⟩) hbb).trans e0
   have d1 := (hb.cell (p := ⟨b, off + j * 3 + 1, none⟩) hbb).trans e1
   have d2 := (hb.cell (p := ⟨b, off + j * 3 + 2, none⟩) hbb).trans e2
   have HE : Hid (EdAt w P eo G[j].es) := e3
   have hlen : G[j].es.length ≤ 8796093022208 := (HOk.out _ (List.getElem_mem hlt)).len
   have HS : Hid (G.take (j + 1) = G.take j ++ [G[j]]) := List.take_succ_eq_append_getElem hlt
   generalize G[j] = y at d0 d1 d2 HE hlen HS
   have HLg : Hid (L.length = j) := hLl
   have HL : Hid (L.map (·.1) = G.take j) := hL
   have HR : Hid _ := hR
   have HQ : Hid _ := hq
   have HB : Hid _ := hb
   have lq := lt_of_block hq
   clear e0 e1 e2 e3 hc hR hq hb hL hLl
   go_wp2_with (first
    | (go_at_call 102; refine (clonevW_any y ec (EdAt.new HE.out (HB.out.alloc HB.out.size _)) hlen).mono ?_; rintro r w1 ⟨ev, rfl, hE1, hb1⟩; obtain ⟨bo, mm, bc', rfl⟩ := own_any hE1; have hR1 := GW.new (GW.new HR.out (one_new wr _)) hb1; have lw1 := hb1.size; have HE1 : Hid _ := hE1; have HR1 : Hid _ := hR1; have hq1 := (hb1.block _ (by rw [World.size_alloc]; omega)).trans ((Below.heap_alloc wr _ _ lq).trans HQ.out); have HQ1 : Hid _ := hq1; have HB1 : Hid _ := (HB.out.alloc HB.out.size _).trans (hb1.mono (by rw [World.size_alloc]; have := HB.out.size; omega)); clear hq1 hE1 hR1 hb1)
    | (at_builtin; refine wpList_append_own_at _ rfl _ _ 22 rfl (w.heap.size + 1 + 1) 65 i0 (.agg #[.int .i64 0, .int .i64 0, .slice none 0 0]) 3 40 Tryz.underlying22 hi hz0 hz1 hz2 rfl (by decide) _ _ _ rfl (own_new HR1.out.row (one_new w1 (.cells #[.int .i64 y.id, .int .i64 y.val, .slice bo mm bc'] 65))) ⟨w1.heap.size, 0, none⟩ 1 1 [.int .i64 y.id, .int .i64 y.val, .slice bo mm bc'] rfl rfl (three_new (heap_alloc_new _ _)) (by intro u hu; simp at hu; rcases hu with rfl | rfl | rfl <;> rfl) (by rw [HLg.out]; unfold maxLen; omega) (by rw [HLg.out]; omega) (by rw [World.size_alloc] at lw1; simp; omega) ?_))
   intro v' w4 hown hgrow _ hat
   have hR4 := GW.app (y := y) (HR1.out.new (one_new w1 (.cells #[.int .i64 y.id, .int .i64 y.val, .slice bo mm bc'] 65))) (own_new (own_low HE1.out (by rw [World.size_alloc]; have := lt_of_block HQ.out; omega)) (one_new w1 _)) (fun x hx k hk e => by have := (((HR.out.eds x hx)).lt k hk).2; have := (World.ownsRow.lt HE1.out k e).1; rw [World.size_alloc] at this; omega) hown hgrow
   have f4 : Fr (w1.alloc (.cells #[.int .i64 y.id, .int .i64 y.val, .slice bo mm bc'] 65)) w4 (fun k => Value.ownBlock (.slice fo m c) = some k) := Fr.grown hgrow (fun k hk => hk)
   have hB4 : Below w.heap.size w w4 := (HB1.out.alloc HB1.out.size _).trans (f4.below (HB1.out.alloc HB1.out.size _).size (fun k hk => by have := (HR.out.row.lt k hk).1; omega))
   have hq4 := (f4.block _ (by rw [World.size_alloc]; have := lt_of_block HQ1.out; omega) (fun hk => by have := (HR.out.row.lt _ hk).1; omega)).trans ((Below.heap_alloc w1 _ _ (lt_of_block HQ1.out)).trans HQ1.out)
   obtain ⟨ao', m', c', rfl⟩ := own_any hown
   have HR4 : Hid _ := hR4
   have HB4 : Hid _ := hB4
   have HQ4 : Hid _ := hq4
   clear hR4 hB4 hq4 hown hgrow hat f4
   go_wp2
   go_roundw
   case rel => exact ⟨j + 1, _, _, _, by omega, rfl, by go_num, ⟨_, by rw [HS.out, List.map_append, HL.out]; rfl, HR4.out⟩, HQ4.out, HB4.out⟩
   case measure => simp [intOf]; omega
  ·obtain rfl : j = G.length := by omega
   rw [List.take_length] at hL
   obtain ⟨p0, p1⟩ := cl_oneW hq
   have HR : Hid _ := hR
   have HL : Hid _ := hL
   clear hR hL
   go_wp2
   refine bodyPost_ret (v := .agg #[.slice fo m c]) (results_cell_row Tryz.results80 _ _ (w.heap.size + 1) 24 _ (0, 0) _ rfl (cl_set1W hq _) Tryz.underlying24 rfl sizeGrW) rfl ?_
   exact ⟨_, L, rfl, HL.out, GW.low (HR.out.keep (Fr.setCell (S := fun k => k = w.heap.size + 1) wr ⟨w.heap.size + 1, 0, none⟩ _ rfl) (fun k e => by omega)) (by omega), hb.trans ((Fr.setCell (S := fun k => k = w.heap.size + 1) wr ⟨w.heap.size + 1, 0, none⟩ _ rfl).below hb.size (fun k hk => by omega))⟩
end
section
open Go.RowKit Go.Sort
theorem res_ctU {fn : Func} {p u : Tmp} {ty : TypeId} (h : fn.results = #[.cell p ty, .tmp u]) (tmps : Array Value) (w : World) (g : Nat) (t : TypeId) (cs : Array Value) (fr : Nat × Nat) (d : TypeDesc)
  (hp : tmps.getD p undef = .pointer (some ⟨g, 0, none⟩)) (hg : w.heap[g]? = some (.cells cs t fr))
  (hu : Tryz.prog.underlying ty = some d) (hd : (match d with | .struct _ | .array _ _ => true | _ => false) = true) (hi : (Tryz.prog.info? ty).map (·.size) = some cs.size) :
  (results fn tmps).run Tryz.prog w = .ok (.tuple #[.agg cs, tmps.getD u undef]) w := by
 rw [results_cell_tmp h, hp]
 have := run_loadVar_row (P := Tryz.prog) w g t ty cs fr d hg hu (by cases d <;> first | rfl | exact hd) hi
 simp [asAddr, this]
structure AP (w wr : World) (G : List Vx) (C : List Mu) (v : Value) (q : Nat) (n : Nat) : Prop where
 graph : ∃ sv L, wr.heap[w.heap.size]? = some (.cells #[sv] 24 (0, 0)) ∧ GW wr (w.heap.size + 1 + 1) sv L ∧ L.map (·.1) = (runU (G, 0) (C.take q)).1
 cnt : n = (runU (G, 0) (C.take q)).2
 out : wr.heap[w.heap.size + 1]? = some (.cells #[.slice none 0 0] 24 (0, 0))
 row : UO wr (w.heap.size + 1 + 1) v C
 low : Below w.heap.size w wr
 size : w.heap.size + 1 + 1 ≤ wr.heap.size
theorem UO.shape {w : World} {base : Nat} {v : Value} {L : List Mu} (h : UO w base v L) : ∃ ao c, v = .slice ao L.length c := by
 rcases h.2 with ⟨h1, h2⟩ | ⟨g, cap, cur, h1, _⟩
 ·exact ⟨none, 0, by rw [h1, h2]⟩
 ·exact ⟨_, _, h1⟩
theorem UO.shapeN {w : World} {base : Nat} {v : Value} {L : List Mu} (h : UO w base v L) : ∃ ao n c, v = .slice ao n c ∧ n = L.length := by
 obtain ⟨ao, c, e⟩ := h.shape
 exact ⟨ao, _, c, e, rfl⟩
theorem own_keepU {w w' : World} {base : Nat} {v : Value} {C : List Mu} {S : Nat → Prop} (h : UO w base v C) (f : Fr w w' S) (hS : ∀ k, v.ownBlock = some k → ¬ S k) : UO w' base v C := own_keep h f hS
theorem own_tagU {w : World} {base : Nat} {v : Value} {C : List Mu} (h : UO w base v C) {k : Nat} (hk : v.ownBlock = some k) {B : Nat} : ¬ GT w B k := by
 rintro ⟨_, cur, t, f, hg, ht⟩
 rcases h.2 with ⟨rfl, _⟩ | ⟨g, cap, cur', rfl, _, hg', _⟩
 ·cases hk
 ·cases hk
  rw [hg'] at hg
  cases hg
  rcases ht with ht | ht <;> exact absurd ht (by decide)
set_option maxHeartbeats 2000000 in
theorem apply_any {w : World} {P Q : Nat → Prop} {ao bo : Option Addr} (G : List Vx) (cap : Nat) (L : List Mu) (cap2 : Nat) (hG : VxAt w P ao G) (hok : ∀ v ∈ G, v.ok) (hf : Fine G) {N : Nat} (hu : Up N G) (hN : N + L.length ≤ 1073741824) (hL : UsAt w Q bo L) (hk : ∀ m ∈ L, 1 ≤ m.k ∧ m.k ≤ 4) :
  Calls Tryz.prog 88 #[.agg #[.slice ao G.length cap], .slice bo L.length cap2] w fun r w' => ∃ sv M, r = .returned (.tuple #[.agg #[sv], .int .i64 (appG G L).2]) ∧ M.map (·.1) = (appG G L).1 ∧ GW w' w.heap.size sv M ∧ Below w.heap.size w w' := by
 have hGl : G.length ≤ 1073741824 := by have := hu.1; omega
 obtain ⟨W0, hW0⟩ : ∃ W0, (w.alloc (.cells #[.slice ao G.length cap] 24)).alloc (.cells #[.slice none 0 0] 24) = W0 := ⟨_, rfl⟩
 have hb0 : Below w.heap.size w W0 := by rw [← hW0]; exact b2 _ _ _
 have hs0 : W0.heap.size = w.heap.size + 1 + 1 := by rw [← hW0, World.size_alloc, World.size_alloc]
 have hg0 : W0.heap[w.heap.size]? = some (.cells #[.slice ao G.length cap] 24 (0, 0)) := by rw [← hW0]; exact (Below.heap_alloc _ _ _ (by simp)).trans (heap_alloc_new _ _)
 have hr0 : W0.heap[w.heap.size + 1]? = some (.cells #[.slice none 0 0] 24 (0, 0)) := by
  have := heap_alloc_new (w.alloc (.cells #[.slice ao G.length cap] 24)) (.cells #[.slice none 0 0] 24)
  rw [World.size_alloc, hW0] at this
  exact this
 have HG0 : Hid _ := hG.new hb0
 have HL0 : Hid _ := hL.new hb0
 have HOk : Hid _ := hok
 have HFi : Hid _ := hf
 have HUp : Hid _ := hu
 have HK : Hid _ := hk
 have HB0 : Hid _ := hb0
 have HS0 : Hid _ := hs0
 have Hg0 : Hid _ := hg0
 have Hr0 : Hid _ := hr0
 obtain ⟨p0, p1⟩ := cl_oneW hg0
 have HL : Hid _ := hL
 clear hG hL hok hf hu hk hb0 hs0 hg0 hr0
 go_enter Tryz.func88, Tryz.ntmps88
 go_upto_region 1 with (fail)
 go_upto_region 2 with (first | (go_at_call 80; refine (cloneW_any (w := W0) G cap HG0.out HOk.out (by omega)).mono ?_; rintro r w1 ⟨sv, M, rfl, hM, hgw, hb1⟩; obtain ⟨so, sm, sc, rfl⟩ := own_any hgw.row; have hq1 := (hb1.block _ (by rw [HS0.out]; omega)).trans Hg0.out; obtain ⟨q0, q1⟩ := cl_oneW hq1; have HM : Hid _ := hM; have HGW : Hid _ := hgw; have HB1 : Hid _ := hb1; have HQ1 : Hid _ := hq1; clear hM hgw hb1 hq1))
 generalize hW2 : World.setCell _ _ _ = W2
 have fs : Fr w1 W2 (fun k => k = w.heap.size) := by rw [← hW2]; exact Fr.setCell (S := fun k => k = w.heap.size) w1 ⟨w.heap.size, 0, none⟩ _ rfl
 have hBw1 : Below w.heap.size w w1 := HB0.out.trans (HB1.out.mono HB0.out.size)
 have hB2 : Below w.heap.size w W2 := hBw1.trans (fs.below hBw1.size (fun k e => by omega))
 have hg2 : W2.heap[w.heap.size]? = some (.cells #[.slice so sm sc] 24 (0, 0)) := by rw [← hW2]; exact cl_set1W HQ1.out _
 have hr2 : W2.heap[w.heap.size + 1]? = some (.cells #[.slice none 0 0] 24 (0, 0)) := (fs.block _ (by have := HB1.out.size; have := HS0.out; omega) (by omega)).trans ((HB1.out.block _ (by have := HS0.out; omega)).trans Hr0.out)
 have hgw2 : GW W2 (w.heap.size + 1 + 1) (.slice so sm sc) M := by
  have := HGW.out
  rw [HS0.out] at this
  exact this.keep fs (fun k e => by omega)
 have hs2 : w.heap.size + 1 + 1 ≤ W2.heap.size := by have := fs.size; have := HB1.out.size; have := HS0.out; omega
 have HL2 : Hid _ := UsAt.new HL.out hB2
 have HG2 : Hid _ := hg2
 have HR2 : Hid _ := hr2
 have HGW2 : Hid _ := hgw2
 have HB2 : Hid _ := hB2
 have HS2 : Hid _ := hs2
 clear hW2 fs hBw1 hB2 hg2 hr2 hgw2 hs2 HGW HQ1 HB1 HB0 HS0 Hg0 Hr0 HG0 HL0 hW0 p0 p1 q0 q1
 have hLl : L.length ≤ 1073741824 := by omega
 go_wp2_with (first | (go_at_call 114; refine (thatcount_any (w := W2) L cap2 HL2.out hLl).mono ?_; rintro r w3 ⟨v, rfl, hv, hb3⟩; obtain ⟨vo, nC, vc, rfl, hnC⟩ := UO.shapeN hv; have HV : Hid _ := hv; have HNC : Hid _ := hnC; clear hnC; have HB3 : Hid _ := hb3; clear hv hb3))
 have HCk : Hid (∀ m ∈ thatC L, 1 ≤ m.k ∧ m.k ≤ 4) := fun m hm => HK.out m (thatC_mem hm)
 have HCl : Hid ((thatC L).length ≤ L.length) := thatC_len L
 have HAp : Hid (appG G L = runU (G, 0) (thatC L)) := rfl
 generalize thatC L = C at HV HNC HCk HCl HAp
 have hnl : nC ≤ 1073741824 := by have := HCl.out; have := HNC.out; omega
 go_loopw [6, 14] (fun u i wr => ∃ q n : Nat, q ≤ nC ∧ n ≤ q ∧ u = .int .i64 n ∧ i = .int .i64 q ∧ AP w wr G C (.slice vo nC vc) q n) (fun _ i _ => nC - (intOf i).toNat)
 case atStart =>
  refine ⟨0, 0, Nat.zero_le _, Nat.le_refl _, rfl, rfl, ⟨⟨_, M, (HB3.out.block _ (by have := HS2.out; omega)).trans HG2.out, HGW2.out.new HB3.out, HM.out⟩, rfl, (HB3.out.block _ (by have := HS2.out; omega)).trans HR2.out, own_low HV.out HS2.out, HB2.out.trans (HB3.out.mono HB2.out.size), by have := HB3.out.size; have := HS2.out; omega⟩⟩
 case round =>
  obtain ⟨q, n, hq, hnq, rfl, rfl, ⟨sv, L1, hg, hgw, hL1⟩, hcnt, hout, hrow, hlow, hsize⟩ := hrel
  clear HG2 HR2 HGW2 HB2 HS2 HB3 HV HM
  by_cases hlt : q < nC
  ·have hqC : q < C.length := by rw [← HNC.out]; exact hlt
   have h5 : wr.ownsRow (w.heap.size + 1 + 1) 195 4 (.slice vo nC vc) nC (C.flatMap muCells) := by have h := hrow; unfold UO at h; rwa [← HNC.out] at h
   obtain ⟨g, vc', cur, hv1, _⟩ := own_blk h5 (by omega)
   cases hv1
   clear h5
   have hcell := UO.cells hrow hqC
   have HT : Hid (runU (G, 0) (C.take (q + 1)) = stepU (runU (G, 0) (C.take q)) C[q]) := by show _ = _; rw [List.take_succ_eq_append_getElem hqC, runU_snoc]
   have hkq := HCk.out C[q] (List.getElem_mem hqC)
   generalize C[q] = x at hcell HT hkq
   obtain ⟨c0, c1, c2, c3⟩ := hcell
   have hfin : Fine (L1.map (·.1)) := by rw [hL1]; exact runU_fine HFi.out _
   have hup : Up (N + nC) (L1.map (·.1)) := by
    rw [hL1]
    have := runU_up (s := (G, 0)) HFi.out HUp.out (C.take q)
    rw [List.length_take, Nat.min_eq_left (by omega)] at this
    exact ⟨by have := this.1; omega, fun v hv => by have := this.2 v hv; omega⟩
   have Hfin : Hid _ := hfin
   have Hup : Hid _ := hup
   have Hkq : Hid _ := hkq
   have Hg : Hid _ := hg
   have Hgw : Hid _ := hgw
   have HL1 : Hid _ := hL1
   have Hcnt : Hid _ := hcnt
   have Hout : Hid _ := hout
   have Hrow : Hid _ := hrow
   have Hlow : Hid _ := hlow
   have Hsize : Hid _ := hsize
   have hNn : N + nC ≤ 1073741824 := by have := HCl.out; have := HNC.out; omega
   clear hfin hup hkq hg hgw hL1 hcnt hout hrow hlow hsize hqC
   go_upto_region 6 with (fail)
   generalize hW : World.alloc wr _ = W
   have hbW : Below wr.heap.size wr W := by rw [← hW]; exact one_new _ _
   have hbox : W.heap[wr.heap.size]? = some (.cells #[.int .i64 x.k, .int .i64 x.i, .int .i64 x.t, .int .i64 x.v] 195 (0, 0)) := by rw [← hW]; exact heap_alloc_new _ _
   obtain ⟨b0, b1, b2, b3⟩ := u_cells hbox
   have HBW : Hid _ := hbW
   have hlg := lt_of_block Hg.out
   have HgW : Hid _ := (hbW.block _ hlg).trans Hg.out
   have HgwW : Hid _ := Hgw.out.new hbW
   have HSW : Hid (w.heap.size + 1 + 1 ≤ W.heap.size) := by have := hbW.size; have := Hsize.out; show _ ≤ _; omega
   clear hW hbW hbox c0 c1 c2 c3 hlg
   cases hr : (doG (L1.map (·.1)) x).2
   all_goals
    have HR : Hid _ := hr
    go_upto_region 8 with (first | (go_at_call 115; refine (do_any (w := W) HgW.out HgwW.out (by omega) HSW.out Hfin.out Hup.out hNn Hkq.out).mono ?_; rw [hr]; rintro r w5 ⟨sv', L', rfl, e1, e2, e3, e4⟩; have E1 : Hid _ := e1; have E2 : Hid _ := e2; have E3 : Hid _ := e3; have E4 : Hid _ := e4; clear e1 e2 e3 e4))
    have hb5 : Below w.heap.size w w5 := (Hlow.out.trans (HBW.out.mono Hlow.out.size)).trans (E4.out.below (by have := HSW.out; omega) (fun k e => by rcases e with e | ⟨e, _⟩ <;> omega))
    have ho5 := (E4.out.block (w.heap.size + 1) (by have := HSW.out; omega) (fun e => by rcases e with e | ⟨e, _⟩ <;> omega)).trans ((HBW.out.block _ (by have := Hsize.out; omega)).trans Hout.out)
    have hrow5 := own_keepU (UO.new Hrow.out HBW.out) E4.out (fun k hk e => by
     rcases e with e | e
     ·have := (World.ownsRow.lt Hrow.out k hk).1; omega
     ·exact own_tagU (UO.new Hrow.out HBW.out) hk e)
    have hst : (runU (G, 0) (C.take (q + 1))) = ((doG (L1.map (·.1)) x).1, n + if (doG (L1.map (·.1)) x).2 then 1 else 0) := by
     rw [HT.out, Hcnt.out]
     unfold stepU
     rw [← HL1.out]
    have hap : ∀ n', n' = (n + if (doG (L1.map (·.1)) x).2 then 1 else 0) → AP w w5 G C (.slice (some ⟨g, 0, none⟩) nC vc) (q + 1) n' := fun n' hn' => ⟨⟨sv', L', E2.out, E3.out, by rw [E1.out, hst]⟩, by rw [hst]; exact hn', ho5, hrow5, hb5, by have := E4.out.size; have := HSW.out; omega⟩
    have HAP : Hid _ := hap
    clear hb5 ho5 hrow5 hst hap hr b0 b1 b2 b3
   ·go_wp2
    go_roundw
    case rel => exact ⟨q + 1, n, by omega, by omega, rfl, by go_num, HAP.out n (by rw [HR.out]; rfl)⟩
    case measure => simp [intOf]; omega
   ·go_wp2
    go_roundw
    case rel => exact ⟨q + 1, n + 1, by omega, by omega, by go_num, by go_num, HAP.out (n + 1) (by rw [HR.out]; rfl)⟩
    case measure => simp [intOf]; omega
  ·obtain rfl : q = nC := by omega
   have hL2 : L1.map (·.1) = (appG G L).1 := by rw [hL1, HAp.out, HNC.out, List.take_length]
   have hn2 : n = (appG G L).2 := by rw [hcnt, HAp.out, HNC.out, List.take_length]
   obtain ⟨so', sm', sc', rfl⟩ := own_any hgw.row
   obtain ⟨g0, g1⟩ := cl_oneW hg
   obtain ⟨r0, r1⟩ := cl_oneW hout
   have HL2 : Hid _ := hL2
   have HN2 : Hid _ := hn2
   have Hgw : Hid _ := hgw
   clear hL1 hcnt hL2 hn2 hgw
   go_wp2
   refine bodyPost_ret (v := .tuple #[.agg #[.slice so' sm' sc'], .int .i64 n]) (res_ctU Tryz.results88 _ _ (w.heap.size + 1) 24 _ (0, 0) _ rfl (cl_set1W hout _) Tryz.underlying24 rfl sizeGrW) rfl ?_
   have fs := Fr.setCell (S := fun k => k = w.heap.size + 1) wr ⟨w.heap.size + 1, 0, none⟩ (.slice so' sm' sc') rfl
   exact ⟨_, L1, by rw [HN2.out], HL2.out, GW.low (Hgw.out.keep fs (fun k e => by omega)) (by omega), hlow.trans (fs.below hlow.size (fun k e => by omega))⟩
end
end Go.Proofs.YtmgjlamglhpnaaaGreat
