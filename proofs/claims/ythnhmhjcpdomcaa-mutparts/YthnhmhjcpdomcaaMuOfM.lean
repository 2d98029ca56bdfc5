import Derived.Test.YthnhmhjcpdomcaaMuDoXM
import Derived.Deep.RegionLaw
import Derived.Test.YthnhmhjcpdomcaaMuEdgeM
import Derived.Test.YthnhmhjcpdomcaaMuClone
import Derived.Test.YthnhmhjcpdomcaaGrIterG
import Derived.Test.YthnhmhjcpdomcaaGrOf
import Derived.Maps.OwnIn
section
/- mut.do: requests for vertices. -/
namespace Go.Proofs.Ythnhmhjcpdomcaa
open Go.RowKit
theorem gcs_one {w : World} {base : Nat} {sv : Value} {L : List (Vx × Value)} (h : GW w base sv L) : ∀ u ∈ gcs L, u.oneCell' = true := by
  intro u hu
  unfold gcs at hu
  obtain ⟨y, hy, hu⟩ := List.mem_flatMap.1 hu
  obtain ⟨ao, m, c, e⟩ := own_any (h.eds y hy)
  simp at hu
  rcases hu with rfl | rfl | rfl
  · rfl
  · rfl
  · rw [e]; rfl
theorem insV_new {w : World} {base : Nat} {v : Value} {n : Nat} {xs : List Value} (t x : Int) (h : w.ownsRow base 84 3 v n xs) (h1 : ∀ u ∈ xs, u.oneCell' = true) (i : Nat) (hi : i ≤ n) (hbase : base ≤ w.heap.size) (hbig : n ≤ 1073741824) :
    Calls Try.prog 74 #[v, .int .i64 i, .slice (some ⟨w.heap.size, 0, none⟩) 1 1] (w.alloc (.cells #[.int .i64 t, .int .i64 x, .slice none 0 0] 84)).drew fun e w' =>
      ∃ v', e = .returned v' ∧ w'.ownsRow base 84 3 v' (n + 1) (xs.take (i * 3) ++ [.int .i64 t, .int .i64 x, .slice none 0 0] ++ xs.drop (i * 3)) ∧ Fr w w' (fun k => v.ownBlock = some k) := by
  have ho := own_new h (one_new w (.cells #[.int .i64 t, .int .i64 x, .slice none 0 0] 84))
  refine (insV_any (w := (w.alloc (.cells #[.int .i64 t, .int .i64 x, .slice none 0 0] 84)).drew) (vb := w.heap.size) (ys := [.int .i64 t, .int .i64 x, .slice none 0 0]) ho h1 i hi (by show base ≤ (w.alloc _).heap.size; rw [World.size_alloc]; omega) (by omega) (heap_alloc_new w _) rfl (by intro u hu; simp at hu; rcases hu with rfl | rfl | rfl <;> rfl) (fun e => by have := (h.lt _ e).2; omega)).mono ?_
  rintro e w' ⟨v', rfl, hv, ho', hf⟩
  exact ⟨v', rfl, ho', (((Fr.alloc w (.cells #[.int .i64 t, .int .i64 x, .slice none 0 0] 84) (fun _ => False)).trans (Fr.drew _ (fun _ => False)) (fun _ _ h => h)).mono (fun _ _ h => h.elim)).trans hf (fun _ _ h => h)⟩
theorem gcs_del (A B : List (Vx × Value)) (x : Vx × Value) : (gcs (A ++ x :: B)).take (A.length * 3) ++ (gcs (A ++ x :: B)).drop ((A.length + 1) * 3) = gcs (A ++ B) := by
  rw [gcs_take, gcs_drop, List.take_left, show (A ++ x :: B).drop (A.length + 1) = B from by rw [show A ++ x :: B = (A ++ [x]) ++ B by simp, List.drop_left' (by simp)], gcs_app]
theorem gcs_ins (A B : List (Vx × Value)) (i v : Int) : (gcs (A ++ B)).take (A.length * 3) ++ [.int .i64 i, .int .i64 v, .slice none 0 0] ++ (gcs (A ++ B)).drop (A.length * 3) = gcs (A ++ (⟨i, v, []⟩, Value.slice none 0 0) :: B) := by
  rw [gcs_take, gcs_drop, List.take_left, List.drop_left, gcs_app, gcs_cons]
  simp
theorem cl_set1u {w : World} {b : Nat} {t : TypeId} {u0 : Value} (h : w.heap[b]? = some (.cells #[u0] t (0, 0))) (x : Value) : (w.setCell ⟨b, 0, none⟩ x).heap[b]? = some (.cells #[x] t (0, 0)) := (set_heap h 0 x).trans rfl
set_option maxRecDepth 100000 in
set_option maxHeartbeats 400000 in
theorem do2_yes {w : World} {base bg : Nat} {sv : Value} {A B : List (Vx × Value)} {x : Vx × Value} {m : Mu} (hg : w.heap[bg]? = some (.cells #[sv] 24 (0, 0))) (h : GW w base sv (A ++ x :: B)) (hbg : bg < base) (hbase : base ≤ w.heap.size) (hf : Fine ((A ++ x :: B).map (·.1))) (hl : (A ++ x :: B).length ≤ 1073741824) (hk : m.k = 2) (hfo : foundB (ids ((A ++ x :: B).map (·.1))) m.i = true) (hfn : findN (ids ((A ++ x :: B).map (·.1))) m.i = A.length) :
    Calls Try.prog 46 #[.pointer (some ⟨bg, 0, none⟩), .agg #[.int .i64 m.k, .int .i64 m.i, .int .i64 m.t, .int .i64 m.v]] w fun e w' => ∃ sv' L', e = .returned (.bool true) ∧ L'.map (·.1) = A.map (·.1) ++ B.map (·.1) ∧ w'.heap[bg]? = some (.cells #[sv'] 24 (0, 0)) ∧ GW w' base sv' L' ∧ Fr w w' (fun k => k = bg ∨ GT w base k) := by
  rw [hk]
  obtain ⟨ao, cap, rfl, hV⟩ := h.at_
  obtain ⟨n, hn⟩ : ∃ n, (A ++ x :: B).length = n := ⟨_, rfl⟩
  rw [hn] at hg h hl
  have HNn : Hid _ := hn
  obtain ⟨W0, hW0⟩ : ∃ W0, w.alloc (.cells #[.int .i64 2, .int .i64 m.i, .int .i64 m.t, .int .i64 m.v] 38) = W0 := ⟨_, rfl⟩
  have hb0 : Below w.heap.size w W0 := by rw [← hW0]; exact one_new _ _
  have hs0 : W0.heap.size = w.heap.size + 1 := by rw [← hW0, World.size_alloc]
  have hq0 : W0.heap[w.heap.size]? = some (.cells #[.int .i64 2, .int .i64 m.i, .int .i64 m.t, .int .i64 m.v] 38 (0, 0)) := by rw [← hW0]; exact heap_alloc_new _ _
  have hg0 : W0.heap[bg]? = some (.cells #[.slice ao n cap] 24 (0, 0)) := (hb0.block _ (by omega)).trans hg
  have hlm : ((A ++ x :: B).map (·.1)).length = n := (List.length_map _).trans hn
  have HF := fun W (hb : Below W0.heap.size W0 W) => findW_any (w := W) cap m.i ((hV.new hb0).new hb) (by rw [hlm]; exact hl) (rise_pw.2 hf.ids)
  rw [hlm, hfo] at HF
  rw [hfn] at HF
  obtain ⟨pi, hpi⟩ : ∃ pi : Int, pi = A.length := ⟨_, rfl⟩
  rw [← hpi] at HF
  have hp1 : 0 ≤ pi := by omega
  have hp3 : A.length ≤ n := by rw [← hn, List.length_append]; omega
  have hp2 : pi ≤ 1073741824 := by omega
  clear hp3
  have HPi : Hid (pi = A.length) := hpi
  clear hpi
  have x0 : W0.cell? ⟨bg, 0, none⟩ = some (.slice ao n cap) ∧ W0.cell? ⟨w.heap.size, 1, none⟩ = some (.int .i64 m.i) := by constructor <;> simp [World.cell?, hg0, hq0]
  have HQ : Hid _ := hq0
  have HG : Hid _ := hg0
  have HBg : Hid (bg < w.heap.size) := Nat.lt_of_lt_of_le hbg hbase
  have HH : Hid _ := h
  have HLen : Hid (n ≤ 1073741824) := hl
  have HNt : Hid (∀ k, (Value.slice ao n cap).ownBlock = some k → GT w base k) := fun k hk => own_gtV h.row hk
  have hAl0 : A.length < n := by rw [← hn, List.length_append, List.length_cons]; omega
  have HAl : Hid _ := hAl0
  clear hAl0
  have HBase : Hid (base ≤ w.heap.size) := hbase
  have HBb : Hid (bg < base) := hbg
  clear hn hq0 hg0 hV hfo hfn h hf hg hbg hbase hlm hl
  go_enter Try.func46, Try.ntmps46
  go_upto_region 1 with (fail)
  go_region_held (fun w' => w'.cell? ⟨bg, 0, none⟩ = some (.slice ao n cap) ∧ w'.cell? ⟨w.heap.size, 1, none⟩ = some (.int .i64 m.i)) (first | exact x1 | exact x0)
    (first | (go_at_call 71; refine (HF _ ((Below.refl _ _).drew)).mono ?_; rintro e w1 ⟨rfl, hb⟩; have x1 := two_kept hb x0))
  have HB : Hid (Below w.heap.size w w1) := hb0.trans (((Below.refl _ _).drew).trans hb |>.mono hb0.size)
  have hd0 : W0.drew.heap.size = W0.heap.size := rfl
  have hs1 : w.heap.size + 1 ≤ w1.heap.size := by have := hb.size; omega
  have hq1 : w1.heap[w.heap.size]? = some (.cells #[.int .i64 2, .int .i64 m.i, .int .i64 m.t, .int .i64 m.v] 38 (0, 0)) := (hb.block _ (by omega)).trans HQ.out
  have hg1 : w1.heap[bg]? = some (.cells #[.slice ao n cap] 24 (0, 0)) := (hb.block _ (by have := HBg.out; omega)).trans HG.out
  obtain ⟨k0, k1, k2, k3⟩ : w1.cell? ⟨w.heap.size, 0, none⟩ = some (.int .i64 2) ∧ w1.cell? ⟨w.heap.size, 1, none⟩ = some (.int .i64 m.i) ∧ w1.cell? ⟨w.heap.size, 2, none⟩ = some (.int .i64 m.t) ∧ w1.cell? ⟨w.heap.size, 3, none⟩ = some (.int .i64 m.v) := by refine ⟨?_, ?_, ?_, ?_⟩ <;> simp [World.cell?, hq1]
  clear hd0 hq1 hb HF hb0 hW0 hs0 x0 x1
  have hb1 := HB.out
  have hG1 := HH.out.new hb1
  have c1 : w1.cell? ⟨bg, 0, none⟩ = some (.slice ao n cap) := by simp [World.cell?, hg1]
  have z1 : w1.frozen? ⟨bg, 0, none⟩ = false := by simp [World.frozen?, hg1]
  have HC1 : Hid _ := And.intro c1 z1
  have ho1 := hG1.row
  rw [HNn.out] at ho1
  have HO1 : Hid _ := ho1
  have HOne : Hid _ := gcs_one hG1
  have HG1 : Hid _ := hG1
  have HS1 : Hid (w.heap.size + 1 ≤ w1.heap.size) := hs1
  have HGq : Hid _ := hg1
  have hlt1 : bg < w1.heap.size := by have := HBg.out; omega
  have hlt2 : w.heap.size < w1.heap.size := by omega
  have HNe : Hid (∀ k, (Value.slice ao n cap).ownBlock = some k → base ≤ k) := fun k hk => (ho1.lt k hk).1
  clear hG1 hb1 hg1 HH ho1
  go_wp2_with (first | (go_at_call 73; refine (delV_at HO1.out HOne.out A.length HAl.out HPi.out).mono ?_; rintro e w2 ⟨v', rfl, hv', ho', hf'⟩; obtain ⟨ao', m', c', rfl⟩ := own_any ho'; have h2 := cell_fr hf' (fun e => by have := HNe.out _ e; have := HBb.out; omega) HC1.out.1 HC1.out.2; have c2 := h2.1; have z2 := h2.2; have HO2 : Hid _ := ho'; have HFr : Hid _ := hf'; clear ho' hf'))
  all_goals
    have hlen : n - 1 = (A ++ B).length := by rw [← HNn.out]; simp <;> omega
    have ho2 := HO2.out
    rw [gcs_del, hlen] at ho2
    have hG2 := HG1.out.del HFr.out ho2
    have hfr1 : Fr w w2 (fun k => k = bg ∨ GT w base k) := (Fr.ofBelow HB.out _).trans HFr.out (fun k hk e => Or.inr (HNt.out k e))
    have hgW : w2.heap[bg]? = some (.cells #[.slice ao n cap] 24 (0, 0)) := (HFr.out.block bg hlt1 (fun e => by have := HNe.out _ e; have := HBb.out; omega)).trans HGq.out
    have fs := Fr.setCell (S := fun k => k = bg) w2 ⟨bg, 0, none⟩ (.slice ao' m' c') rfl
    have hG3 := hG2.keep fs (fun k e => by have := HBb.out; omega)
    have hgS := cl_set1u hgW (.slice ao' m' c')
    have hfr2 := hfr1.trans fs (fun k _ e => Or.inl e)
    have HG3 : Hid _ := hG3
    have HgS : Hid _ := hgS
    have Hfr2 : Hid _ := hfr2
    clear hG2 hG3 hgS hfr1 hfr2 fs hgW hlen ho2
    go_wp2
    go_ret
    exact ⟨_, _, rfl, by simp, HgS.out, HG3.out, Hfr2.out⟩
set_option maxRecDepth 100000 in
set_option maxHeartbeats 400000 in
theorem do3_yes {w : World} {base bg : Nat} {sv : Value} {A B : List (Vx × Value)}  {m : Mu} (hg : w.heap[bg]? = some (.cells #[sv] 24 (0, 0))) (h : GW w base sv (A ++ B)) (hbg : bg < base) (hbase : base ≤ w.heap.size) (hf : Fine ((A ++ B).map (·.1))) (hl : (A ++ B).length ≤ 1073741824) (hk : m.k = 3) (hfo : foundB (ids ((A ++ B).map (·.1))) m.i = false) (hfn : findN (ids ((A ++ B).map (·.1))) m.i = A.length) :
    Calls Try.prog 46 #[.pointer (some ⟨bg, 0, none⟩), .agg #[.int .i64 m.k, .int .i64 m.i, .int .i64 m.t, .int .i64 m.v]] w fun e w' => ∃ sv' L', e = .returned (.bool true) ∧ L'.map (·.1) = A.map (·.1) ++ ⟨m.i, m.v, []⟩ :: B.map (·.1) ∧ w'.heap[bg]? = some (.cells #[sv'] 24 (0, 0)) ∧ GW w' base sv' L' ∧ Fr w w' (fun k => k = bg ∨ GT w base k) := by
  rw [hk]
  obtain ⟨ao, cap, rfl, hV⟩ := h.at_
  obtain ⟨n, hn⟩ : ∃ n, (A ++ B).length = n := ⟨_, rfl⟩
  rw [hn] at hg h hl
  have HNn : Hid _ := hn
  obtain ⟨W0, hW0⟩ : ∃ W0, w.alloc (.cells #[.int .i64 3, .int .i64 m.i, .int .i64 m.t, .int .i64 m.v] 38) = W0 := ⟨_, rfl⟩
  have hb0 : Below w.heap.size w W0 := by rw [← hW0]; exact one_new _ _
  have hs0 : W0.heap.size = w.heap.size + 1 := by rw [← hW0, World.size_alloc]
  have hq0 : W0.heap[w.heap.size]? = some (.cells #[.int .i64 3, .int .i64 m.i, .int .i64 m.t, .int .i64 m.v] 38 (0, 0)) := by rw [← hW0]; exact heap_alloc_new _ _
  have hg0 : W0.heap[bg]? = some (.cells #[.slice ao n cap] 24 (0, 0)) := (hb0.block _ (by omega)).trans hg
  have hlm : ((A ++ B).map (·.1)).length = n := (List.length_map _).trans hn
  have HF := fun W (hb : Below W0.heap.size W0 W) => findW_any (w := W) cap m.i ((hV.new hb0).new hb) (by rw [hlm]; exact hl) (rise_pw.2 hf.ids)
  rw [hlm, hfo] at HF
  rw [hfn] at HF
  obtain ⟨pi, hpi⟩ : ∃ pi : Int, pi = A.length := ⟨_, rfl⟩
  rw [← hpi] at HF
  have hp1 : 0 ≤ pi := by omega
  have hp3 : A.length ≤ n := by rw [← hn, List.length_append]; omega
  have hp2 : pi ≤ 1073741824 := by omega
  clear hp3
  have HPi : Hid (pi = A.length) := hpi
  clear hpi
  have x0 : W0.cell? ⟨bg, 0, none⟩ = some (.slice ao n cap) ∧ W0.cell? ⟨w.heap.size, 1, none⟩ = some (.int .i64 m.i) := by constructor <;> simp [World.cell?, hg0, hq0]
  have HQ : Hid _ := hq0
  have HG : Hid _ := hg0
  have HBg : Hid (bg < w.heap.size) := Nat.lt_of_lt_of_le hbg hbase
  have HH : Hid _ := h
  have HLen : Hid (n ≤ 1073741824) := hl
  have HNt : Hid (∀ k, (Value.slice ao n cap).ownBlock = some k → GT w base k) := fun k hk => own_gtV h.row hk
  have hAl0 : A.length ≤ n := by rw [← hn, List.length_append]; omega
  have HAl : Hid _ := hAl0
  clear hAl0
  have HBase : Hid (base ≤ w.heap.size) := hbase
  have HBb : Hid (bg < base) := hbg
  clear hn hq0 hg0 hV hfo hfn h hf hg hbg hbase hlm hl
  go_enter Try.func46, Try.ntmps46
  go_upto_region 1 with (fail)
  go_region_held (fun w' => w'.cell? ⟨bg, 0, none⟩ = some (.slice ao n cap) ∧ w'.cell? ⟨w.heap.size, 1, none⟩ = some (.int .i64 m.i)) (first | exact x1 | exact x0)
    (first | (go_at_call 71; refine (HF _ ((Below.refl _ _).drew)).mono ?_; rintro e w1 ⟨rfl, hb⟩; have x1 := two_kept hb x0))
  have HB : Hid (Below w.heap.size w w1) := hb0.trans (((Below.refl _ _).drew).trans hb |>.mono hb0.size)
  have hd0 : W0.drew.heap.size = W0.heap.size := rfl
  have hs1 : w.heap.size + 1 ≤ w1.heap.size := by have := hb.size; omega
  have hq1 : w1.heap[w.heap.size]? = some (.cells #[.int .i64 3, .int .i64 m.i, .int .i64 m.t, .int .i64 m.v] 38 (0, 0)) := (hb.block _ (by omega)).trans HQ.out
  have hg1 : w1.heap[bg]? = some (.cells #[.slice ao n cap] 24 (0, 0)) := (hb.block _ (by have := HBg.out; omega)).trans HG.out
  obtain ⟨k0, k1, k2, k3⟩ : w1.cell? ⟨w.heap.size, 0, none⟩ = some (.int .i64 3) ∧ w1.cell? ⟨w.heap.size, 1, none⟩ = some (.int .i64 m.i) ∧ w1.cell? ⟨w.heap.size, 2, none⟩ = some (.int .i64 m.t) ∧ w1.cell? ⟨w.heap.size, 3, none⟩ = some (.int .i64 m.v) := by refine ⟨?_, ?_, ?_, ?_⟩ <;> simp [World.cell?, hq1]
  clear hd0 hq1 hb HF hb0 hW0 hs0 x0 x1
  have hb1 := HB.out
  have hG1 := HH.out.new hb1
  have c1 : w1.cell? ⟨bg, 0, none⟩ = some (.slice ao n cap) := by simp [World.cell?, hg1]
  have z1 : w1.frozen? ⟨bg, 0, none⟩ = false := by simp [World.frozen?, hg1]
  have HC1 : Hid _ := And.intro c1 z1
  have ho1 := hG1.row
  rw [HNn.out] at ho1
  have HO1 : Hid _ := ho1
  have HOne : Hid _ := gcs_one hG1
  have HG1 : Hid _ := hG1
  have HS1 : Hid (w.heap.size + 1 ≤ w1.heap.size) := hs1
  have HGq : Hid _ := hg1
  have hlt1 : bg < w1.heap.size := by have := HBg.out; omega
  have hlt2 : w.heap.size < w1.heap.size := by omega
  have HNe : Hid (∀ k, (Value.slice ao n cap).ownBlock = some k → base ≤ k) := fun k hk => (ho1.lt k hk).1
  clear hG1 hb1 hg1 HH ho1
  go_upto_region 11 with (fail)
  go_region_law (first | (go_simp; go_at_call 74; rw [HPi.out]; refine (insV_new m.i m.v HO1.out HOne.out A.length HAl.out (by have := HBase.out; have := HS1.out; omega) HLen.out).mono ?_; rintro e w2 ⟨v', rfl, ho', hf'⟩; obtain ⟨ao', m', c', rfl⟩ := own_any ho'; have h2 := cell_fr hf' (fun e => by have := HNe.out _ e; have := HBb.out; omega) HC1.out.1 HC1.out.2; have c2 := h2.1; have z2 := h2.2; have HO2 : Hid _ := ho'; have HFr : Hid _ := hf'; clear ho' hf'))
  all_goals
    have hlen : n + 1 = (A ++ ((⟨m.i, m.v, []⟩ : Vx), Value.slice none 0 0) :: B).length := by rw [← HNn.out]; simp <;> omega
    have ho2 := HO2.out
    rw [gcs_ins, hlen] at ho2
    have hG2 := GW.ins (v := ⟨m.i, m.v, []⟩) HG1.out HFr.out rfl ho2
    have hfr1 : Fr w w2 (fun k => k = bg ∨ GT w base k) := (Fr.ofBelow HB.out _).trans HFr.out (fun k hk e => Or.inr (HNt.out k e))
    have hgW : w2.heap[bg]? = some (.cells #[.slice ao n cap] 24 (0, 0)) := (HFr.out.block bg hlt1 (fun e => by have := HNe.out _ e; have := HBb.out; omega)).trans HGq.out
    have fs := Fr.setCell (S := fun k => k = bg) w2 ⟨bg, 0, none⟩ (.slice ao' m' c') rfl
    have hG3 := hG2.keep fs (fun k e => by have := HBb.out; omega)
    have hgS := cl_set1u hgW (.slice ao' m' c')
    have hfr2 := hfr1.trans fs (fun k _ e => Or.inl e)
    have HG3 : Hid _ := hG3
    have HgS : Hid _ := hgS
    have Hfr2 : Hid _ := hfr2
    clear hG2 hG3 hgS hfr1 hfr2 fs hgW hlen ho2
    go_wp2
    go_ret
    exact ⟨_, _, rfl, by simp, HgS.out, HG3.out, Hfr2.out⟩
end Go.Proofs.Ythnhmhjcpdomcaa
end

section
/- mut.do, whatever it is asked. -/
namespace Go.Proofs.Ythnhmhjcpdomcaa
open Go.RowKit
theorem do_same {w w' : World} {base bg : Nat} {sv : Value} {L : List (Vx × Value)} (hg : w.heap[bg]? = some (.cells #[sv] 24 (0, 0))) (h : GW w base sv L) (hb : Below w.heap.size w w') : w'.heap[bg]? = some (.cells #[sv] 24 (0, 0)) ∧ GW w' base sv L ∧ Fr w w' (fun k => k = bg ∨ GT w base k) :=
  ⟨(hb.block _ (Array.getElem?_eq_some_iff.1 hg).1).trans hg, h.new hb, Fr.ofBelow hb _⟩
theorem do_any {w : World} {base bg : Nat} {sv : Value} {L : List (Vx × Value)} {m : Mu} (hg : w.heap[bg]? = some (.cells #[sv] 24 (0, 0))) (h : GW w base sv L) (hbg : bg < base) (hbase : base ≤ w.heap.size) (hf : Fine (L.map (·.1))) {N : Nat} (hu : Up N (L.map (·.1))) (hN : N ≤ 1073741824) (hk : 1 ≤ m.k ∧ m.k ≤ 4) :
    Calls Try.prog 46 #[.pointer (some ⟨bg, 0, none⟩), .agg #[.int .i64 m.k, .int .i64 m.i, .int .i64 m.t, .int .i64 m.v]] w fun e w' => ∃ sv' L', e = .returned (.bool (doG (L.map (·.1)) m).2) ∧ L'.map (·.1) = (doG (L.map (·.1)) m).1 ∧ w'.heap[bg]? = some (.cells #[sv'] 24 (0, 0)) ∧ GW w' base sv' L' ∧ Fr w w' (fun k => k = bg ∨ GT w base k) := by
  have hl : L.length ≤ 1073741824 := by have := hu.1; rw [List.length_map] at this; omega
  have hkk : m.k = 1 ∨ m.k = 2 ∨ m.k = 3 ∨ m.k = 4 := by omega
  rcases split_ids hf.ids m.i with ⟨A', v, B', h1, h2, h3, h4, h5, h6⟩ | ⟨A', B', h1, h3, h4, h5, h6⟩
  · obtain ⟨A, R, rfl, rfl, hR⟩ := List.map_eq_append_iff.1 h1
    obtain ⟨x, B, rfl, rfl, rfl⟩ := List.map_eq_cons_iff.1 hR
    rw [List.length_map] at h5
    have hel : x.1.es.length ≤ 1073741824 := by have := hu.2 x.1 (by rw [map_mid]; simp); omega
    have hD : doG ((A ++ x :: B).map (·.1)) m = (A.map (·.1) ++ ((doV x.1 m).1 ++ B.map (·.1)), (doV x.1 m).2) := by rw [map_mid]; exact doG_there h2 h3 h4
    rw [hD]
    rcases hkk with hk | hk | hk | hk
    · cases he : foundB (ends x.1.es) m.t
      · have e : doV x.1 m = ([x.1], false) := by unfold doV; rw [hk]; simp [he]
        refine (do1_same hg h hbg hbase hf hl hk h6 h5 hel he).mono ?_
        rintro r w' ⟨rfl, hb⟩
        rw [e]
        exact ⟨sv, A ++ x :: B, rfl, by rw [map_mid]; rfl, do_same hg h hb⟩
      · have e : doV x.1 m = ([⟨x.1.id, x.1.val, x.1.es.take (findN (ends x.1.es) m.t) ++ x.1.es.drop (findN (ends x.1.es) m.t + 1)⟩], true) := by unfold doV; rw [hk]; simp [he]
        refine (do1_yes hg h hbg hbase hf hl hk h6 h5 hel he).mono ?_
        rintro r w' ⟨sv', L', rfl, q1, q2, q3, q4⟩
        rw [e]
        exact ⟨sv', L', rfl, q1, q2, q3, q4⟩
    · have e : doV x.1 m = ([], true) := by unfold doV; rw [hk]; simp
      refine (do2_yes hg h hbg hbase hf hl hk h6 h5).mono ?_
      rintro r w' ⟨sv', L', rfl, q1, q2, q3, q4⟩
      rw [e]
      exact ⟨sv', L', rfl, q1, q2, q3, q4⟩
    · have e : doV x.1 m = ([x.1], false) := by unfold doV; rw [hk]; simp
      refine (do3_no hg h hbg hbase hf hl hk h6).mono ?_
      rintro r w' ⟨rfl, hb⟩
      rw [e]
      exact ⟨sv, A ++ x :: B, rfl, by rw [map_mid]; rfl, do_same hg h hb⟩
    · cases he : foundB (ends x.1.es) m.t
      · have e : doV x.1 m = ([⟨x.1.id, x.1.val, x.1.es.take (findN (ends x.1.es) m.t) ++ ⟨m.t, m.v⟩ :: x.1.es.drop (findN (ends x.1.es) m.t)⟩], true) := by unfold doV; rw [hk]; simp [he]
        refine (do4_yes hg h hbg hbase hf hl hk h6 h5 hel he).mono ?_
        rintro r w' ⟨sv', L', rfl, q1, q2, q3, q4⟩
        rw [e]
        exact ⟨sv', L', rfl, q1, q2, q3, q4⟩
      · have e : doV x.1 m = ([x.1], false) := by unfold doV; rw [hk]; simp [he]
        refine (do4_same hg h hbg hbase hf hl hk h6 h5 hel he).mono ?_
        rintro r w' ⟨rfl, hb⟩
        rw [e]
        exact ⟨sv, A ++ x :: B, rfl, by rw [map_mid]; rfl, do_same hg h hb⟩
  · obtain ⟨A, B, rfl, rfl, rfl⟩ := List.map_eq_append_iff.1 h1
    rw [List.length_map] at h5
    have hD : doG ((A ++ B).map (·.1)) m = (A.map (·.1) ++ ((noV m).1 ++ B.map (·.1)), (noV m).2) := by rw [List.map_append]; exact doG_none h3 h4
    rw [hD]
    rcases hkk with hk | hk | hk | hk
    · have e : noV m = ([], false) := by unfold noV; rw [hk]; simp
      refine (do1_no hg h hbg hbase hf hl hk h6).mono ?_
      rintro r w' ⟨rfl, hb⟩
      rw [e]
      exact ⟨sv, A ++ B, rfl, by simp, do_same hg h hb⟩
    · have e : noV m = ([], false) := by unfold noV; rw [hk]; simp
      refine (do2_no hg h hbg hbase hf hl hk h6).mono ?_
      rintro r w' ⟨rfl, hb⟩
      rw [e]
      exact ⟨sv, A ++ B, rfl, by simp, do_same hg h hb⟩
    · have e : noV m = ([⟨m.i, m.v, []⟩], true) := by unfold noV; rw [hk]; simp
      refine (do3_yes hg h hbg hbase hf hl hk h6 h5).mono ?_
      rintro r w' ⟨sv', L', rfl, q1, q2, q3, q4⟩
      rw [e]
      exact ⟨sv', L', rfl, q1, q2, q3, q4⟩
    · have e : noV m = ([], false) := by unfold noV; rw [hk]; simp
      refine (do4_no hg h hbg hbase hf hl hk h6).mono ?_
      rintro r w' ⟨rfl, hb⟩
      rw [e]
      exact ⟨sv, A ++ B, rfl, by simp, do_same hg h hb⟩
end Go.Proofs.Ythnhmhjcpdomcaa
end

section
/- mut.Apply: the graph behind all requests, and how many changed something. -/
namespace Go.Proofs.Ythnhmhjcpdomcaa
open Go.RowKit Go.Sort
theorem res_ctU {fn : Func} {p u : Tmp} {ty : TypeId} (h : fn.results = #[.cell p ty, .tmp u]) (tmps : Array Value) (w : World) (g : Nat) (t : TypeId) (cs : Array Value) (fr : Nat × Nat) (d : TypeDesc)
    (hp : tmps.getD p undef = .pointer (some ⟨g, 0, none⟩)) (hg : w.heap[g]? = some (.cells cs t fr))
    (hu : Try.prog.underlying ty = some d) (hd : (match d with | .struct _ | .array _ _ => true | _ => false) = true) (hi : (Try.prog.info? ty).map (·.size) = some cs.size) :
    (results fn tmps).run Try.prog w = .ok (.tuple #[.agg cs, tmps.getD u undef]) w := by
  rw [results_cell_tmp h, hp]
  have := run_loadVar_row (P := Try.prog) w g t ty cs fr d hg hu (by cases d <;> first | rfl | exact hd) hi
  simp [asAddr, this]
/-- What the loop holds. -/
structure AP (w wr : World) (G : List Vx) (C : List Mu) (v : Value) (q : Nat) (n : Nat) : Prop where
  graph : ∃ sv L, wr.heap[w.heap.size]? = some (.cells #[sv] 24 (0, 0)) ∧ GW wr (w.heap.size + 1 + 1) sv L ∧ L.map (·.1) = (runU (G, 0) (C.take q)).1
  cnt : n = (runU (G, 0) (C.take q)).2
  out : wr.heap[w.heap.size + 1]? = some (.cells #[.slice none 0 0] 24 (0, 0))
  row : UO wr (w.heap.size + 1 + 1) v C
  low : Below w.heap.size w wr
  size : w.heap.size + 1 + 1 ≤ wr.heap.size
theorem UO.shape {w : World} {base : Nat} {v : Value} {L : List Mu} (h : UO w base v L) : ∃ ao c, v = .slice ao L.length c := by
  rcases h.2 with ⟨h1, h2⟩ | ⟨g, cap, cur, h1, _⟩
  · exact ⟨none, 0, by rw [h1, h2]⟩
  · exact ⟨_, _, h1⟩
theorem UO.shapeN {w : World} {base : Nat} {v : Value} {L : List Mu} (h : UO w base v L) : ∃ ao n c, v = .slice ao n c ∧ n = L.length := by
  obtain ⟨ao, c, e⟩ := h.shape
  exact ⟨ao, _, c, e, rfl⟩
theorem own_keepU {w w' : World} {base : Nat} {v : Value} {C : List Mu} {S : Nat → Prop} (h : UO w base v C) (f : Fr w w' S) (hS : ∀ k, v.ownBlock = some k → ¬ S k) : UO w' base v C := own_keep h f hS
theorem own_tagU {w : World} {base : Nat} {v : Value} {C : List Mu} (h : UO w base v C) {k : Nat} (hk : v.ownBlock = some k) {B : Nat} : ¬ GT w B k := by
  rintro ⟨_, cur, t, f, hg, ht⟩
  rcases h.2 with ⟨rfl, _⟩ | ⟨g, cap, cur', rfl, _, hg', _⟩
  · cases hk
  · cases hk
    rw [hg'] at hg
    cases hg
    rcases ht with ht | ht <;> exact absurd ht (by decide)
set_option maxRecDepth 100000 in
set_option maxHeartbeats 2000000 in
theorem apply_any {w : World} {P Q : Nat → Prop} {ao bo : Option Addr} (G : List Vx) (cap : Nat) (L : List Mu) (cap2 : Nat) (hG : VxAt w P ao G) (hok : ∀ v ∈ G, v.ok) (hf : Fine G) {N : Nat} (hu : Up N G) (hN : N + L.length ≤ 1073741824) (hL : UsAt w Q bo L) (hk : ∀ m ∈ L, 1 ≤ m.k ∧ m.k ≤ 4) :
    Calls Try.prog 16 #[.agg #[.slice ao G.length cap], .slice bo L.length cap2] w fun r w' => ∃ sv M, r = .returned (.tuple #[.agg #[sv], .int .i64 (appG G L).2]) ∧ M.map (·.1) = (appG G L).1 ∧ GW w' w.heap.size sv M ∧ Below w.heap.size w w' := by
  have hGl : G.length ≤ 1073741824 := by have := hu.1; omega
  obtain ⟨W0, hW0⟩ : ∃ W0, (w.alloc (.cells #[.slice ao G.length cap] 24)).alloc (.cells #[.slice none 0 0] 24) = W0 := ⟨_, rfl⟩
  have hb0 : Below w.heap.size w W0 := by rw [← hW0]; exact b2 _ _ _
  have hs0 : W0.heap.size = w.heap.size + 1 + 1 := by rw [← hW0, World.size_alloc, World.size_alloc]
  have hg0 : W0.heap[w.heap.size]? = some (.cells #[.slice ao G.length cap] 24 (0, 0)) := by rw [← hW0]; exact (Below.heap_alloc _ _ _ (by simp)).trans (heap_alloc_new _ _)
  have hr0 : W0.heap[w.heap.size + 1]? = some (.cells #[.slice none 0 0] 24 (0, 0)) := by
    have := heap_alloc_new (w.alloc (.cells #[.slice ao G.length cap] 24)) (.cells #[.slice none 0 0] 24)
    rw [World.size_alloc, hW0] at this
    exact this
  have HG0 : Hid _ := hG.new hb0
  have HL0 : Hid _ := hL.new hb0
  have HOk : Hid _ := hok
  have HFi : Hid _ := hf
  have HUp : Hid _ := hu
  have HK : Hid _ := hk
  have HB0 : Hid _ := hb0
  have HS0 : Hid _ := hs0
  have Hg0 : Hid _ := hg0
  have Hr0 : Hid _ := hr0
  obtain ⟨p0, p1⟩ := cl_oneW hg0
  have HL : Hid _ := hL
  clear hG hL hok hf hu hk hb0 hs0 hg0 hr0
  go_enter Try.func16, Try.ntmps16
  go_upto_region 1 with (fail)
  go_upto_region 2 with (first | (go_at_call 44; refine (cloneW_any (w := W0) G cap HG0.out HOk.out (by omega)).mono ?_; rintro r w1 ⟨sv, M, rfl, hM, hgw, hb1⟩; obtain ⟨so, sm, sc, rfl⟩ := own_any hgw.row; have hq1 := (hb1.block _ (by rw [HS0.out]; omega)).trans Hg0.out; obtain ⟨q0, q1⟩ := cl_oneW hq1; have HM : Hid _ := hM; have HGW : Hid _ := hgw; have HB1 : Hid _ := hb1; have HQ1 : Hid _ := hq1; clear hM hgw hb1 hq1))
  generalize hW2 : World.setCell _ _ _ = W2
  have fs : Fr w1 W2 (fun k => k = w.heap.size) := by rw [← hW2]; exact Fr.setCell (S := fun k => k = w.heap.size) w1 ⟨w.heap.size, 0, none⟩ _ rfl
  have hBw1 : Below w.heap.size w w1 := HB0.out.trans (HB1.out.mono HB0.out.size)
  have hB2 : Below w.heap.size w W2 := hBw1.trans (fs.below hBw1.size (fun k e => by omega))
  have hg2 : W2.heap[w.heap.size]? = some (.cells #[.slice so sm sc] 24 (0, 0)) := by rw [← hW2]; exact cl_set1W HQ1.out _
  have hr2 : W2.heap[w.heap.size + 1]? = some (.cells #[.slice none 0 0] 24 (0, 0)) := (fs.block _ (by have := HB1.out.size; have := HS0.out; omega) (by omega)).trans ((HB1.out.block _ (by have := HS0.out; omega)).trans Hr0.out)
  have hgw2 : GW W2 (w.heap.size + 1 + 1) (.slice so sm sc) M := by
    have := HGW.out
    rw [HS0.out] at this
    exact this.keep fs (fun k e => by omega)
  have hs2 : w.heap.size + 1 + 1 ≤ W2.heap.size := by have := fs.size; have := HB1.out.size; have := HS0.out; omega
  have HL2 : Hid _ := UsAt.new HL.out hB2
  have HG2 : Hid _ := hg2
  have HR2 : Hid _ := hr2
  have HGW2 : Hid _ := hgw2
  have HB2 : Hid _ := hB2
  have HS2 : Hid _ := hs2
  clear hW2 fs hBw1 hB2 hg2 hr2 hgw2 hs2 HGW HQ1 HB1 HB0 HS0 Hg0 Hr0 HG0 HL0 hW0 p0 p1 q0 q1
  have hLl : L.length ≤ 1073741824 := by omega
  go_wp2_with (first | (go_at_call 45; refine (thatcount_any (w := W2) L cap2 HL2.out hLl).mono ?_; rintro r w3 ⟨v, rfl, hv, hb3⟩; obtain ⟨vo, nC, vc, rfl, hnC⟩ := UO.shapeN hv; have HV : Hid _ := hv; have HNC : Hid _ := hnC; clear hnC; have HB3 : Hid _ := hb3; clear hv hb3))
  have HCk : Hid (∀ m ∈ thatC L, 1 ≤ m.k ∧ m.k ≤ 4) := fun m hm => HK.out m (thatC_mem hm)
  have HCl : Hid ((thatC L).length ≤ L.length) := thatC_len L
  have HAp : Hid (appG G L = runU (G, 0) (thatC L)) := rfl
  generalize thatC L = C at HV HNC HCk HCl HAp
  have hnl : nC ≤ 1073741824 := by have := HCl.out; have := HNC.out; omega
  go_loopw [6, 14] (fun u i wr => ∃ q n : Nat, q ≤ nC ∧ n ≤ q ∧ u = .int .i64 n ∧ i = .int .i64 q ∧ AP w wr G C (.slice vo nC vc) q n) (fun _ i _ => nC - (intOf i).toNat)
  case atStart =>
    refine ⟨0, 0, Nat.zero_le _, Nat.le_refl _, rfl, rfl, ⟨⟨_, M, (HB3.out.block _ (by have := HS2.out; omega)).trans HG2.out, HGW2.out.new HB3.out, HM.out⟩, rfl, (HB3.out.block _ (by have := HS2.out; omega)).trans HR2.out, own_low HV.out HS2.out, HB2.out.trans (HB3.out.mono HB2.out.size), by have := HB3.out.size; have := HS2.out; omega⟩⟩
  case round =>
    obtain ⟨q, n, hq, hnq, rfl, rfl, ⟨sv, L1, hg, hgw, hL1⟩, hcnt, hout, hrow, hlow, hsize⟩ := hrel
    clear HG2 HR2 HGW2 HB2 HS2 HB3 HV HM
    by_cases hlt : q < nC
    · have hqC : q < C.length := by rw [← HNC.out]; exact hlt
      have h5 : wr.ownsRow (w.heap.size + 1 + 1) 38 4 (.slice vo nC vc) nC (C.flatMap muCells) := by have h := hrow; unfold UO at h; rwa [← HNC.out] at h
      obtain ⟨g, vc', cur, hv1, _⟩ := own_blk h5 (by omega)
      cases hv1
      clear h5
      have hcell := UO.cells hrow hqC
      have HT : Hid (runU (G, 0) (C.take (q + 1)) = stepU (runU (G, 0) (C.take q)) C[q]) := by show _ = _; rw [List.take_succ_eq_append_getElem hqC, runU_snoc]
      have hkq := HCk.out C[q] (List.getElem_mem hqC)
      generalize C[q] = x at hcell HT hkq
      obtain ⟨c0, c1, c2, c3⟩ := hcell
      have hfin : Fine (L1.map (·.1)) := by rw [hL1]; exact runU_fine HFi.out _
      have hup : Up (N + nC) (L1.map (·.1)) := by
        rw [hL1]
        have := runU_up (s := (G, 0)) HFi.out HUp.out (C.take q)
        rw [List.length_take, Nat.min_eq_left (by omega)] at this
        exact ⟨by have := this.1; omega, fun v hv => by have := this.2 v hv; omega⟩
      have Hfin : Hid _ := hfin
      have Hup : Hid _ := hup
      have Hkq : Hid _ := hkq
      have Hg : Hid _ := hg
      have Hgw : Hid _ := hgw
      have HL1 : Hid _ := hL1
      have Hcnt : Hid _ := hcnt
      have Hout : Hid _ := hout
      have Hrow : Hid _ := hrow
      have Hlow : Hid _ := hlow
      have Hsize : Hid _ := hsize
      have hNn : N + nC ≤ 1073741824 := by have := HCl.out; have := HNC.out; omega
      clear hfin hup hkq hg hgw hL1 hcnt hout hrow hlow hsize hqC
      go_upto_region 6 with (fail)
      generalize hW : World.alloc wr _ = W
      have hbW : Below wr.heap.size wr W := by rw [← hW]; exact one_new _ _
      have hbox : W.heap[wr.heap.size]? = some (.cells #[.int .i64 x.k, .int .i64 x.i, .int .i64 x.t, .int .i64 x.v] 38 (0, 0)) := by rw [← hW]; exact heap_alloc_new _ _
      obtain ⟨b0, b1, b2, b3⟩ := u_cells hbox
      have HBW : Hid _ := hbW
      have hlg := lt_of_block Hg.out
      have HgW : Hid _ := (hbW.block _ hlg).trans Hg.out
      have HgwW : Hid _ := Hgw.out.new hbW
      have HSW : Hid (w.heap.size + 1 + 1 ≤ W.heap.size) := by have := hbW.size; have := Hsize.out; show _ ≤ _; omega
      clear hW hbW hbox c0 c1 c2 c3 hlg
      cases hr : (doG (L1.map (·.1)) x).2
      all_goals
        have HR : Hid _ := hr
        go_upto_region 8 with (first | (go_at_call 46; refine (do_any (w := W) HgW.out HgwW.out (by omega) HSW.out Hfin.out Hup.out hNn Hkq.out).mono ?_; rw [hr]; rintro r w5 ⟨sv', L', rfl, e1, e2, e3, e4⟩; have E1 : Hid _ := e1; have E2 : Hid _ := e2; have E3 : Hid _ := e3; have E4 : Hid _ := e4; clear e1 e2 e3 e4))
        have hb5 : Below w.heap.size w w5 := (Hlow.out.trans (HBW.out.mono Hlow.out.size)).trans (E4.out.below (by have := HSW.out; omega) (fun k e => by rcases e with e | ⟨e, _⟩ <;> omega))
        have ho5 := (E4.out.block (w.heap.size + 1) (by have := HSW.out; omega) (fun e => by rcases e with e | ⟨e, _⟩ <;> omega)).trans ((HBW.out.block _ (by have := Hsize.out; omega)).trans Hout.out)
        have hrow5 := own_keepU (UO.new Hrow.out HBW.out) E4.out (fun k hk e => by
          rcases e with e | e
          · have := (World.ownsRow.lt Hrow.out k hk).1; omega
          · exact own_tagU (UO.new Hrow.out HBW.out) hk e)
        have hst : (runU (G, 0) (C.take (q + 1))) = ((doG (L1.map (·.1)) x).1, n + if (doG (L1.map (·.1)) x).2 then 1 else 0) := by
          rw [HT.out, Hcnt.out]
          unfold stepU
          rw [← HL1.out]
        have hap : ∀ n', n' = (n + if (doG (L1.map (·.1)) x).2 then 1 else 0) → AP w w5 G C (.slice (some ⟨g, 0, none⟩) nC vc) (q + 1) n' := fun n' hn' => ⟨⟨sv', L', E2.out, E3.out, by rw [E1.out, hst]⟩, by rw [hst]; exact hn', ho5, hrow5, hb5, by have := E4.out.size; have := HSW.out; omega⟩
        have HAP : Hid _ := hap
        clear hb5 ho5 hrow5 hst hap hr b0 b1 b2 b3
      · go_wp2
        go_roundw
        case rel => exact ⟨q + 1, n, by omega, by omega, rfl, by go_num, HAP.out n (by rw [HR.out]; rfl)⟩
        case measure => simp [intOf]; omega
      · go_wp2
        go_roundw
        case rel => exact ⟨q + 1, n + 1, by omega, by omega, by go_num, by go_num, HAP.out (n + 1) (by rw [HR.out]; rfl)⟩
        case measure => simp [intOf]; omega
    · obtain rfl : q = nC := by omega
      have hL2 : L1.map (·.1) = (appG G L).1 := by rw [hL1, HAp.out, HNC.out, List.take_length]
      have hn2 : n = (appG G L).2 := by rw [hcnt, HAp.out, HNC.out, List.take_length]
      obtain ⟨so', sm', sc', rfl⟩ := own_any hgw.row
      obtain ⟨g0, g1⟩ := cl_oneW hg
      obtain ⟨r0, r1⟩ := cl_oneW hout
      have HL2 : Hid _ := hL2
      have HN2 : Hid _ := hn2
      have Hgw : Hid _ := hgw
      clear hL1 hcnt hL2 hn2 hgw
      go_wp2
      refine bodyPost_ret (v := .tuple #[.agg #[.slice so' sm' sc'], .int .i64 n]) (res_ctU Try.results16 _ _ (w.heap.size + 1) 24 _ (0, 0) _ rfl (cl_set1W hout _) Try.underlying24 rfl sizeGrW) rfl ?_
      have fs := Fr.setCell (S := fun k => k = w.heap.size + 1) wr ⟨w.heap.size + 1, 0, none⟩ (.slice so' sm' sc') rfl
      exact ⟨_, L1, by rw [HN2.out], HL2.out, GW.low (Hgw.out.keep fs (fun k e => by omega)) (by omega), hlow.trans (fs.below hlow.size (fun k e => by omega))⟩
end Go.Proofs.Ythnhmhjcpdomcaa
end

section
/- The law's of: a partition of a graph, a graph of its own. -/
namespace Go.Proofs.Ythnhmhjcpdomcaa
open Go.RowKit Go.Shelf
attribute [local go_sem] Oper.semAt_some
theorem own_raise {w : World} {base B : Nat} {e : TypeId} {size : Nat} {v : Value} {n : Nat} {xs : List Value} (h : w.ownsRow base e size v n xs) (hb : ∀ k, v.ownBlock = some k → B ≤ k) : w.ownsRow B e size v n xs := by
  refine ⟨h.1, ?_⟩
  rcases h.2 with hn | ⟨g, cap, cur, rfl, h2, rest⟩
  · exact .inl hn
  · exact .inr ⟨g, cap, cur, rfl, hb g rfl, rest⟩
/-- What the rounds of 'of' hold. -/
structure OG (w W : World) (L : List (Vx × Value)) (T : Nat → Prop) : Prop where
  row : ∃ sv, W.heap[w.heap.size + 1 + 1]? = some (.cells #[sv] 24 (0, 0)) ∧ GW W (w.heap.size + 1 + 1 + 1) sv L ∧ (∀ k, sv.ownBlock = some k → T k) ∧ ∀ x ∈ L, ∀ k, x.2.ownBlock = some k → T k
  res : W.heap[w.heap.size + 1]? = some (.cells #[.slice none 0 0] 24 (0, 0))
  low : Below w.heap.size w W
  tob : T (w.heap.size + 1 + 1)
theorem gw_kept {W W' : World} {base : Nat} {sv : Value} {L : List (Vx × Value)} {S : Nat → Prop} (h : GW W base sv L) (f : Fr W W' S) (h1 : ∀ k, sv.ownBlock = some k → ¬ S k) (h2 : ∀ x ∈ L, ∀ k, x.2.ownBlock = some k → ¬ S k) : GW W' base sv L :=
  ⟨own_keep h.row f h1, fun x hx => own_keep (h.eds x hx) f (h2 x hx), h.apart⟩
theorem OG.stands {w : World} {B : Nat} (hB : w.heap.size + 1 + 1 ≤ B) : Stands B (fun L T W => OG w W L T) := by
  rintro L T W W' ⟨⟨sv, h1, h2, h3, h3'⟩, h4, h5, h6⟩ f
  exact ⟨⟨sv, (f.block _ (lt_of_block h1) (fun h => h.2 h6)).trans h1, gw_kept h2 f (fun k hk h => h.2 (h3 k hk)) (fun x hx k hk h => h.2 (h3' x hx k hk)), h3, h3'⟩, (f.block _ (lt_of_block h4) (fun h => by have := h.1; omega)).trans h4, h5.trans (f.below h5.size (fun k hk => by have := hk.1; omega)), h6⟩
theorem b3u (w : World) (o1 o2 o3 : Obj) : Below w.heap.size w (((w.alloc o1).alloc o2).alloc o3) := (b2 w o1 o2).alloc (by simp; omega) _
set_option maxRecDepth 100000 in
set_option maxHeartbeats 4000000 in
theorem of6_any {w : World} {P : Nat → Prop} {ao : Option Addr} (G : List Vx) (cap : Nat) (part parts : Int) (h : VxAt w P ao G) (hok : ∀ v ∈ G, v.ok) (hl : G.length * 40 ≤ 140737488355328) (hp : I64 parts) :
    Calls Try.prog 22 #[.agg #[.slice ao G.length cap], .int .i64 part, .int .i64 parts] w fun r w' => ∃ sv M, r = .returned (.agg #[sv]) ∧ M.map (·.1) = partG G parts part ∧ GW w' w.heap.size sv M ∧ Below w.heap.size w w' := by
  obtain ⟨i0, hi, hz0, hz1, hz2⟩ := info_parts mInfoV
  have hokP : ∀ v ∈ partG G parts part, v.ok := fun v hv => hok v (List.mem_filter.1 hv).1
  have hlP : (partG G parts part).length ≤ G.length := List.length_filter_le _ _
  have HG : Hid (∀ W, Below w.heap.size w W → VxAt W P ao G) := fun W hb => h.new hb
  clear h
  refine (callsIn_wide (n := 9)).1 ?_
  refine callsIn_of_wp_marks Try.func22 rfl trivial ?_ rfl
  simp only [Try.ntmps22, List.size_toArray, List.length_cons, List.length_nil, Nat.reduceAdd, Nat.reduceSub, Array.replicate_succ, Array.replicate_zero, List.push_toArray, List.append_toArray, List.nil_append, List.cons_append]
  gi_wp2_with (refine ⟨trivial, ?_⟩; gi_at_call 53; refine (callsIn_wide.2 (of_fn G cap part parts (HG.out _ (b3u _ _ _ _)) hok hl hp)).mono ?_; rintro r w1 ⟨bo, c, rfl, hB1, hV1, hb1⟩)
  have hz : (((w.alloc (.cells #[.slice ao G.length cap] 24)).alloc (.cells #[.slice none 0 0] 24)).alloc (.cells #[.slice none 0 0] 24)).heap.size = w.heap.size + 1 + 1 + 1 := by simp
  have hL1 : OG w w1 [] (fun k => k = w.heap.size + 1 + 1) := by
    refine ⟨⟨.slice none 0 0, (hb1.block _ (by omega)).trans ?_, ⟨World.ownsRow_nil _ _ _ _, fun x hx => (by cases hx), List.Pairwise.nil⟩, fun k hk => (by cases hk), fun x hx => (by cases hx)⟩, (hb1.block _ (by omega)).trans ?_, (b3u w _ _ _).trans (hb1.mono (by omega)), rfl⟩
    · have := heap_alloc_new ((w.alloc (.cells #[.slice ao G.length cap] 24)).alloc (.cells #[.slice none 0 0] 24)) (.cells #[.slice none 0 0] 24)
      rw [World.size_alloc, World.size_alloc] at this
      exact this
    · refine (Below.heap_alloc _ _ _ (by simp)).trans ?_
      have := heap_alloc_new (w.alloc (.cells #[.slice ao G.length cap] 24)) (.cells #[.slice none 0 0] 24)
      rw [World.size_alloc] at this
      exact this
  have hs1 : w.heap.size + 1 + 1 + 1 + 1 < w1.heap.size := by have := lt_of_block hB1; omega
  rw [hz] at hB1 hV1 hb1
  clear hz
  refine wpIn_rangeG (lb := #[.pointer (some ⟨w.heap.size + 1 + 1 + 1 + 1, 0, none⟩)]) (gf := 81) rfl (enters_of Try.func81 (by kernel_rfl) rfl)
    (of1_G (w.heap.size + 1 + 1 + 1 + 1) bo c (partG G parts part) (by omega) hokP w1 (fun k => w.heap.size + 1 + 1 + 1 ≤ k ∧ k < w1.heap.size) _ (fun k hk => hk.2) (cl_oneW hB1).1 hV1 (fun k hk hp => ⟨by omega, hk⟩)) (Below.refl _ _) (fun _ => rfl)
    (fun pre T W => OG w W pre T) (fun _ _ _ _ => False) (OG.stands (by omega)) (fun _ _ _ _ _ h _ => h.elim) (fun k => k = w.heap.size + 1 + 1) (fun k hk => ⟨by omega, by omega⟩) hL1 ?round ?done (fun _ _ _ _ _ _ _ h => h.elim)
  case round =>
    rintro m l pre T x W hl0 ⟨r, hr⟩ hTl hI ⟨hx1, hx2⟩ hx3 hpre
    have hlen : pre.length < (partG G parts part).length := by
      have := hpre.length_le
      simp at this
      omega
    clear hpre
    obtain ⟨⟨sv, g1, g2, g3, g3'⟩, g4, g5, g6⟩ := hI
    obtain ⟨ao', m', c', rfl⟩ := own_any g2.row
    obtain ⟨xo, xm, xc, hxe⟩ := own_any hx1
    obtain ⟨y, ev⟩ := x
    simp only at hxe hx1 hx2 hx3 hTl
    subst hxe
    have hlt := lt_of_block hr
    have lob := lt_of_block g1
    have hxb : ∀ k, (Value.slice xo xm xc).ownBlock = some k → w.heap.size + 1 + 1 + 1 ≤ k := fun k hk => by have := (hx3 k hk).1; omega
    dsimp only [encG]
    gi_wp2
    refine ⟨Fr.alloc _ _ _, fun W2 f2 => ?_⟩
    have hs2 : W.heap.size + 1 ≤ W2.heap.size := by have := f2.size; rw [World.size_alloc] at this; exact this
    have v0 := (f2.block W.heap.size (by rw [World.size_alloc]; omega) (by omega)).trans (heap_alloc_new _ _)
    have o0 := (f2.block (w.heap.size + 1 + 1) (by rw [World.size_alloc]; omega) (fun e => hTl (.inl (e ▸ g6)))).trans ((Below.heap_alloc _ _ _ lob).trans g1)
    have q0' := (f2.block (w.heap.size + 1) (by rw [World.size_alloc]; omega) (by omega)).trans ((Below.heap_alloc _ _ _ (lt_of_block g4)).trans g4)
    have r0 := gw_kept (g2.new (one_new _ _)) f2 (fun k hk e => hTl (.inl (e ▸ (g3 k hk)))) (fun z hz k hk e => hTl (.inl (e ▸ (g3' z hz k hk))))
    have x0 := own_keep (own_new hx1 (one_new W (.cells #[.int .i64 y.id, .int .i64 y.val, .slice xo xm xc] 84))) f2 (fun k hk e => hTl (.inr (e ▸ hk)))
    have low2 : Below w.heap.size w W2 := (g5.alloc g5.size _).trans (f2.below (g5.alloc g5.size _).size (fun k hk => by omega))
    obtain ⟨q0, q1, q2⟩ := box3 v0
    obtain ⟨p0, p1⟩ := cl_oneW o0
    have HR0 : Hid _ := r0
    have HX0 : Hid _ := own_raise x0 hxb
    have HO0 : Hid _ := o0
    have HQ0 : Hid _ := q0'
    have HX3 : Hid (∀ k, (Value.slice xo xm xc).ownBlock = some k → k < W.heap.size) := fun k hk => (hx3 k hk).2
    clear r0 o0 v0 f2 hL1 hB1 hV1 x0 q0' hx1
    gi_wp2_with (gi_at_builtin; refine wpListIn_append_own_at _ rfl _ _ 22 rfl (w.heap.size + 1 + 1 + 1) 84 i0 (.agg #[.int .i64 0, .int .i64 0, .slice none 0 0]) 3 40 Try.underlying22 hi hz0 hz1 hz2 rfl (by decide) _ _ _ rfl (own_new HR0.out.row (one_new _ _)) ⟨W2.heap.size, 0, none⟩ 1 1 [.int .i64 y.id, .int .i64 y.val, .slice xo xm xc] rfl rfl (three_new (heap_alloc_new _ _)) (by intro u hu; simp at hu; rcases hu with rfl | rfl | rfl <;> rfl) (by unfold maxLen; omega) (by omega) (by have := low2.size; simp; omega) ?_; intro v' w4 hown hgrow _ hat; have f4 : Fr (W2.alloc (.cells #[.int .i64 y.id, .int .i64 y.val, .slice xo xm xc] 84)) w4 (fun k => Value.ownBlock (.slice ao' m' c') = some k) := Fr.grown hgrow (fun k hk => hk); have o4 := (f4.block _ (by rw [World.size_alloc]; have := lt_of_block HO0.out; omega) (fun hk => by have := (HR0.out.row.lt _ hk).1; omega)).trans ((Below.heap_alloc W2 _ _ (lt_of_block HO0.out)).trans HO0.out); obtain ⟨p4, p5⟩ := cl_oneW o4; obtain ⟨ao2, m2, c2, rfl⟩ := own_any hown)
    have hO4 := lt_of_block HO0.out
    have hg4 := GW.app (y := y) (HR0.out.new (one_new W2 (.cells #[.int .i64 y.id, .int .i64 y.val, .slice xo xm xc] 84))) (own_new HX0.out (one_new W2 _)) (fun z hz k hk e => hx2 k e (g3' z hz k hk)) hown hgrow
    have hs4 : W2.heap.size + 1 ≤ w4.heap.size := by have := f4.size; rw [World.size_alloc] at this; exact this
    have hnew : ∀ k, (Value.slice ao2 m2 c2).ownBlock = some k → T k ∨ (W2.heap.size ≤ k ∧ k < w4.heap.size) := fun k hk => by
      rcases hat with e | e
      · rw [e] at hk; exact .inl (g3 k hk)
      · have h2 := (hown.lt k hk).2
        rw [e, World.size_alloc] at hk
        have := Option.some.inj hk
        exact .inr ⟨by omega, h2⟩
    have fs : Fr w4 (w4.setCell ⟨w.heap.size + 1 + 1, 0, none⟩ (.slice ao2 m2 c2)) (fun k => k = w.heap.size + 1 + 1) := Fr.setCell (S := fun k => k = w.heap.size + 1 + 1) w4 ⟨w.heap.size + 1 + 1, 0, none⟩ _ rfl
    refine ⟨fun k => T k ∨ (Value.slice xo xm xc).ownBlock = some k ∨ Value.ownBlock (.slice ao2 m2 c2) = some k, ?_, ?_, ⟨⟨.slice ao2 m2 c2, cl_set1W o4 _, ?_, fun k hk => .inr (.inr hk), ?_⟩, ?_, ?_, Or.inl g6⟩⟩
    · exact ((Fr.alloc _ _ _).trans f4 (fun k _ hk => .inl (g3 k hk))).trans (Fr.setCell (S := fun k => T k ∨ (Value.slice xo xm xc).ownBlock = some k) w4 ⟨w.heap.size + 1 + 1, 0, none⟩ _ (.inl g6)) (fun _ _ h => h)
    · have hs5 : (w4.setCell ⟨w.heap.size + 1 + 1, 0, none⟩ (.slice ao2 m2 c2)).heap.size = w4.heap.size := by simp [World.setCell]
      intro k hk
      rcases hk with hk | hk | hk
      · exact .inl (.inl hk)
      · exact .inl (.inr hk)
      · rcases hnew k hk with h | h
        · exact .inl (.inl h)
        · rw [hs5]; exact .inr h
    · exact hg4.keep fs (fun k e => by omega)
    · intro z hz k hk
      rcases List.mem_append.1 hz with hz | hz
      · exact .inl (g3' z hz k hk)
      · rw [List.mem_singleton] at hz
        subst hz
        exact .inr (.inl hk)
    · exact (fs.block _ (by have := lt_of_block HQ0.out; omega) (by omega)).trans ((f4.block _ (by rw [World.size_alloc]; have := lt_of_block HQ0.out; omega) (fun hk => by have := (HR0.out.row.lt _ hk).1; omega)).trans ((Below.heap_alloc W2 _ _ (lt_of_block HQ0.out)).trans HQ0.out))
    · exact ((low2.alloc low2.size _).trans (f4.below (low2.alloc low2.size _).size (fun k hk => by have := (HR0.out.row.lt k hk).1; omega))).trans (fs.below (by have := low2.size; omega) (fun k e => by omega))
  case done =>
    rintro D xs T W hD hS ⟨⟨sv, g1, g2, g3, g3'⟩, g4, g5, g6⟩ hTD hK
    obtain ⟨ao', m', c', rfl⟩ := own_any g2.row
    obtain ⟨p0, p1⟩ := cl_oneW g1
    obtain ⟨r0, r1⟩ := cl_oneW g4
    have HG2 : Hid _ := g2
    have HG4 : Hid _ := g4
    clear g2 hL1 hB1 hV1
    gi_wp2
    refine ⟨by simp, .inl ⟨_, _, rfl, run_takeDeferred ((Below.heap_setCell W ⟨w.heap.size + 1, 0, none⟩ _ D (by show D ≠ w.heap.size + 1; omega)).trans hK), ?_⟩⟩
    have fr : Fr W (W.setCell ⟨w.heap.size + 1, 0, none⟩ (.slice ao' m' c')) (fun k => k = w.heap.size + 1) := Fr.setCell (S := fun k => k = w.heap.size + 1) W ⟨w.heap.size + 1, 0, none⟩ _ rfl
    have fD : Fr (W.setCell ⟨w.heap.size + 1, 0, none⟩ (.slice ao' m' c')) ((W.setCell ⟨w.heap.size + 1, 0, none⟩ (.slice ao' m' c')).putObj D (.deferred none)) (fun k => k = D) := Fr.putObj _ rfl
    have hres : ((W.setCell ⟨w.heap.size + 1, 0, none⟩ (.slice ao' m' c')).putObj D (.deferred none)).heap[w.heap.size + 1]? = some (.cells #[.slice ao' m' c'] 24 (0, 0)) := (fD.block _ (by have := fr.size; have := lt_of_block HG4.out; omega) (by omega)).trans (cl_set1W HG4.out _)
    refine ⟨.agg #[.slice ao' m' c'], results_cell_row Try.results22 _ _ (w.heap.size + 1) 24 _ (0, 0) _ rfl hres Try.underlying24 rfl sizeGrW, _, xs, rfl, hS, ?_, ?_⟩
    · refine GW.low (gw_kept (gw_kept HG2.out fr (fun k hk e => by have := (HG2.out.row.lt k hk).1; omega) (fun z hz k hk e => by have := ((HG2.out.eds z hz).lt k hk).1; omega)) fD (fun k hk e => hTD (e ▸ g3 k hk)) (fun z hz k hk e => hTD (e ▸ g3' z hz k hk))) (by omega)
    · exact (g5.trans (fr.below g5.size (fun k e => by omega))).trans (fD.below (by have := fr.size; have := g5.size; omega) (fun k e => by omega))
end Go.Proofs.Ythnhmhjcpdomcaa
end
