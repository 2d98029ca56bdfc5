import Derived.Test.YthnhmhjcpdomcaaMuOneAM
section
/- The document's one: a vertex goes; nothing changes. -/
namespace Go.Proofs.Ythnhmhjcpdomcaa
open Go.RowKit Go.Sort
theorem found_ltO {w : World} {go : Option Addr} {gn gc : Nat} {M : List (Vx × Value)} {m : Mu} {at_ : Nat} (h : OneIn w go gn gc M m at_ true) : at_ < M.length := by
  have h2 := h.fb0
  unfold foundB at h2
  rw [h.at0] at h2
  by_cases hl : at_ < M.length
  · exact hl
  · rw [List.getElem?_eq_none (by rw [ids_len, List.length_map]; omega)] at h2
    cases h2
set_option maxRecDepth 100000 in
set_option maxHeartbeats 1000000 in
/-- A vertex goes. -/
theorem one_go {w : World} {go : Option Addr} {gn gc : Nat} {M : List (Vx × Value)} {m : Mu} {at_ : Nat} (h : OneIn w go gn gc M m at_ true) (hk : m.k = 2) :
    Calls Try.prog 47 #[.slice go gn gc, .agg #[.int .i64 m.k, .int .i64 m.i, .int .i64 m.t, .int .i64 m.v]] w fun r w' => ∃ v' M', r = .returned (.tuple #[v', .bool true]) ∧ M'.map (·.1) = (M.map (·.1)).take at_ ++ (M.map (·.1)).drop (at_ + 1) ∧ RG w' v' M' ∧ Below w.heap.size w w' := by
  have hlt := found_ltO h
  have HI : Hid _ := h
  obtain ⟨hgn, hgc, hgo, hat, hV⟩ := h.shape
  have hb1 : Below w.heap.size w (w.alloc (.cells #[.int .i64 m.k, .int .i64 m.i, .int .i64 m.t, .int .i64 m.v] 45)) := one_newU _ _
  have hbig := h.big
  have HF : Hid (∀ W, Below w.heap.size w W → Calls Try.prog 35 #[.slice go gn gc, .int .i64 m.i] W fun r w' => r = .returned (.tuple #[.int .i64 at_, .bool true]) ∧ Below W.heap.size W w') := fun W hb => reffind_n gc (by rw [List.length_map]; exact hgn) (hV.new hb) (by rw [List.length_map]; omega) h.at0 h.fb0
  have HB : Hid _ := heap_alloc_new w (.cells #[.int .i64 m.k, .int .i64 m.i, .int .i64 m.t, .int .i64 m.v] 45)
  have HB1 : Hid _ := hb1
  have HKk : Hid _ := hk
  have HGn : Hid (gn = M.length) := hgn
  have HGo : Hid _ := hgo
  have hg5 : gn ≤ 500000 := by omega
  clear h hV hb1 hk hgn hgo
  go_enter Try.func47, Try.ntmps47
  go_upto_region 9 with (go_at_call 35; refine (HF.out _ HB1.out).mono ?_; rintro r w2 ⟨rfl, hb2⟩; have hbx := (hb2.block _ (lt_of_block HB.out)).trans HB.out; obtain ⟨c0, c1, c2, c3⟩ := cellU4 hbx; rw [HKk.out] at c0; have HBX : Hid _ := hbx; have HB2 : Hid _ := HB1.out.trans (hb2.mono HB1.out.size); clear hbx hb2)
  have hgn := HGn.out
  have hgo := HGo.out
  have hrg := HI.out.rg.new HB2.out
  have hrow := hrg.row
  rw [← hgn] at hrow
  refine one_r9 (go := go) (gn := gn) (gc := gc) (at_ := at_) (at2 := at_ + 1) (s1 := gcs (M.take at_)) (s2 := gcs (M.drop (at_ + 1))) rfl rfl rfl (by rcases hgo with ⟨e1, e2, e3⟩ | e; omega; exact e) (by simp) (by omega) (by omega) (by omega)
    (by rw [gcs_len, List.length_take]; omega) (fun W hb => by rw [← gcs_take]; exact SrcF.new (src_take hrow at_ (by omega)) hb) (fun u hu => hrg.one u (by rw [← gcs_take] at hu; exact List.mem_of_mem_take hu))
    (by rw [gcs_len, List.length_drop]; omega) (fun W hb => by rw [← gcs_drop]; exact SrcF.new (src_drop hrow (at_ + 1)) hb) (fun u hu => hrg.one u (by rw [← gcs_drop] at hu; exact List.mem_of_mem_drop hu)) ?_
  intro X W rv h4 h5 hown _ hlow
  have HR : Hid (RG W rv (M.take at_ ++ M.drop (at_ + 1))) := by
    refine ⟨?_, fun x hx => ?_⟩
    · have hl : (M.take at_ ++ M.drop (at_ + 1)).length = 0 + at_ + (gn - (at_ + 1)) := by simp; omega
      rw [hl, gcs_app]
      exact own_low hown (Nat.zero_le _)
    · rcases List.mem_append.1 hx with hx | hx
      · exact own_new (hrg.eds x (List.mem_of_mem_take hx)) hlow
      · exact own_new (hrg.eds x (List.mem_of_mem_drop hx)) hlow
  simp only [puts]
  rw [h4, h5]
  obtain ⟨ro, rn, rc, hrv⟩ := own_any hown
  subst hrv
  have HLo : Hid _ := HB2.out.trans (hlow.mono HB2.out.size)
  clear h4 h5 hown hlow hrg hrow hgn hgo
  generalize X 46 = x46
  generalize X 47 = x47
  generalize X 48 = x48
  generalize X 49 = x49
  generalize X 50 = x50
  generalize X 51 = x51
  generalize X 52 = x52
  generalize X 53 = x53
  generalize X 54 = x54
  generalize X 55 = x55
  simp only [Act.put, List.setIfInBounds_toArray, List.set_cons_succ, List.set_cons_zero]
  go_wp2
  go_ret2
  exact ⟨_, _, rfl, by simp, HR.out, HLo.out⟩
set_option maxRecDepth 100000 in
set_option maxHeartbeats 1000000 in
/-- A vertex that is there does not come. -/
theorem one_is {w : World} {go : Option Addr} {gn gc : Nat} {M : List (Vx × Value)} {m : Mu} {at_ : Nat} (h : OneIn w go gn gc M m at_ true) (hk : m.k = 3) :
    Calls Try.prog 47 #[.slice go gn gc, .agg #[.int .i64 m.k, .int .i64 m.i, .int .i64 m.t, .int .i64 m.v]] w fun r w' => r = .returned (.tuple #[.slice go gn gc, .bool false]) ∧ Below w.heap.size w w' := by
  have HI : Hid _ := h
  obtain ⟨hgn, hgc, hgo, hat, hV⟩ := h.shape
  have hb1 : Below w.heap.size w (w.alloc (.cells #[.int .i64 m.k, .int .i64 m.i, .int .i64 m.t, .int .i64 m.v] 45)) := one_newU _ _
  have hbig := h.big
  have HF : Hid (∀ W, Below w.heap.size w W → Calls Try.prog 35 #[.slice go gn gc, .int .i64 m.i] W fun r w' => r = .returned (.tuple #[.int .i64 at_, .bool true]) ∧ Below W.heap.size W w') := fun W hb => reffind_n gc (by rw [List.length_map]; exact hgn) (hV.new hb) (by rw [List.length_map]; omega) h.at0 h.fb0
  have HB : Hid _ := heap_alloc_new w (.cells #[.int .i64 m.k, .int .i64 m.i, .int .i64 m.t, .int .i64 m.v] 45)
  have HB1 : Hid _ := hb1
  have HKk : Hid _ := hk
  have HGn : Hid (gn = M.length) := hgn
  have HGo : Hid _ := hgo
  have hg5 : gn ≤ 500000 := by omega
  clear h hV hb1 hk hgn hgo
  go_enter Try.func47, Try.ntmps47
  go_wp2_with (go_at_call 35; refine (HF.out _ HB1.out).mono ?_; rintro r w2 ⟨rfl, hb2⟩; have hbx := (hb2.block _ (lt_of_block HB.out)).trans HB.out; obtain ⟨c0, c1, c2, c3⟩ := cellU4 hbx; rw [HKk.out] at c0; have HBX : Hid _ := hbx; have HB2 : Hid _ := HB1.out.trans (hb2.mono HB1.out.size); clear hbx hb2)
  go_ret2
  exact ⟨rfl, HB2.out⟩
set_option maxRecDepth 100000 in
set_option maxHeartbeats 1000000 in
/-- Where the vertex is not there, nothing else is done. -/
theorem one_not {w : World} {go : Option Addr} {gn gc : Nat} {M : List (Vx × Value)} {m : Mu} {at_ : Nat} (h : OneIn w go gn gc M m at_ false) (hk : ¬ m.k = 3) :
    Calls Try.prog 47 #[.slice go gn gc, .agg #[.int .i64 m.k, .int .i64 m.i, .int .i64 m.t, .int .i64 m.v]] w fun r w' => r = .returned (.tuple #[.slice go gn gc, .bool false]) ∧ Below w.heap.size w w' := by
  have hkb : (m.k == 3) = false := by simpa using hk
  have HI : Hid _ := h
  obtain ⟨hgn, hgc, hgo, hat, hV⟩ := h.shape
  have hb1 : Below w.heap.size w (w.alloc (.cells #[.int .i64 m.k, .int .i64 m.i, .int .i64 m.t, .int .i64 m.v] 45)) := one_newU _ _
  have hbig := h.big
  have HF : Hid (∀ W, Below w.heap.size w W → Calls Try.prog 35 #[.slice go gn gc, .int .i64 m.i] W fun r w' => r = .returned (.tuple #[.int .i64 at_, .bool false]) ∧ Below W.heap.size W w') := fun W hb => reffind_n gc (by rw [List.length_map]; exact hgn) (hV.new hb) (by rw [List.length_map]; omega) h.at0 h.fb0
  have HB : Hid _ := heap_alloc_new w (.cells #[.int .i64 m.k, .int .i64 m.i, .int .i64 m.t, .int .i64 m.v] 45)
  have HB1 : Hid _ := hb1
  have HKk : Hid _ := hk
  have HGn : Hid (gn = M.length) := hgn
  have HGo : Hid _ := hgo
  have hg5 : gn ≤ 500000 := by omega
  clear h hV hb1 hk hgn hgo HKk
  go_enter Try.func47, Try.ntmps47
  go_wp2_with (go_at_call 35; refine (HF.out _ HB1.out).mono ?_; rintro r w2 ⟨rfl, hb2⟩; have hbx := (hb2.block _ (lt_of_block HB.out)).trans HB.out; obtain ⟨c0, c1, c2, c3⟩ := cellU4 hbx; have HBX : Hid _ := hbx; have HB2 : Hid _ := HB1.out.trans (hb2.mono HB1.out.size); clear hbx hb2)
  go_ret2
  exact ⟨rfl, HB2.out⟩
end Go.Proofs.Ythnhmhjcpdomcaa
end

section
/- The document's one: an edge goes, an edge comes. -/
namespace Go.Proofs.Ythnhmhjcpdomcaa
open Go.RowKit Go.Sort
theorem refedge_n {w : World} {P : Nat → Prop} {ao : Option Addr} {L : List Ed} {gn at_ : Nat} {x : Int} {fb : Bool} (cap : Nat) (hgn : gn = L.length) (h : EdAt w P ao L) (hl : L.length ≤ 9223372036854775807) (h1 : findN (ends L) x = at_) (h2 : foundB (ends L) x = fb) :
    Calls Try.prog 76 #[.slice ao gn cap, .int .i64 x] w fun r w' => r = .returned (.tuple #[.int .i64 at_, .bool fb]) ∧ Below w.heap.size w w' := by
  subst hgn h1 h2
  exact refedge_any cap x h hl
theorem one_edges {w : World} {go : Option Addr} {gn gc : Nat} {M : List (Vx × Value)} {m : Mu} {at_ : Nat} (h : OneIn w go gn gc M m at_ true) {x : Vx × Value} (hx : M[at_]? = some x) {ie : Nat} {fb : Bool} (he : findN (ends x.1.es) m.t = ie) (hfe : foundB (ends x.1.es) m.t = fb) :
    ∃ eo en ec, en = x.1.es.length ∧ x.2 = .slice eo en ec ∧ (en ≤ ec ∧ ((eo = none ∧ en = 0 ∧ ec = 0) ∨ ∃ gb, eo = some ⟨gb, 0, none⟩)) ∧ (∃ gb, go = some ⟨gb, 0, none⟩ ∧ ∀ W, Below w.heap.size w W → W.cell? ⟨gb, at_ * 3, none⟩ = some (.int .i64 x.1.id) ∧ W.cell? ⟨gb, at_ * 3 + 1, none⟩ = some (.int .i64 x.1.val) ∧ W.cell? ⟨gb, at_ * 3 + 2, none⟩ = some x.2) ∧
      (∀ W, Below w.heap.size w W → Calls Try.prog 76 #[.slice eo en ec, .int .i64 m.t] W fun r w' => r = .returned (.tuple #[.int .i64 ie, .bool fb]) ∧ Below W.heap.size W w') ∧ ie ≤ en ∧ M = M.take at_ ++ x :: M.drop (at_ + 1) ∧ en ≤ 500000 := by
  have hlt := found_ltO h
  have hm := List.mem_of_getElem? hx
  have hg : M[at_] = x := by rw [List.getElem?_eq_getElem hlt] at hx; exact Option.some.inj hx
  have hM : M = M.take at_ ++ x :: M.drop (at_ + 1) := by rw [← hg, ← List.drop_eq_getElem_cons hlt, List.take_append_drop]
  have hE := h.rg.eds x hm
  have hbe := h.bigE x hm
  obtain ⟨eo, en, ec, hv⟩ := own_any hE
  rw [hv] at hE
  obtain ⟨e1, e2, e3⟩ := own_shapeG hE
  obtain ⟨_, hEd⟩ := own_eds hE
  have hie := findN_le (ends x.1.es) m.t
  rw [he, ends_len] at hie
  refine ⟨eo, en, ec, e1, hv, ⟨by omega, by rw [← e1] at e3; exact e3⟩, ?_, fun W hb => refedge_n ec e1 (hEd.new hb) (by omega) he hfe, by omega, hM, by omega⟩
  rcases h.shape.2.2.1 with ⟨_, h2, _⟩ | ⟨gb, rfl⟩
  · omega
  · refine ⟨gb, rfl, fun W hb => ?_⟩
    have hrow := (h.rg.new hb).row
    have ha := gcs_at (M.take at_) (M.drop (at_ + 1)) x
    rw [← hM, List.length_take, Nat.min_eq_left (by omega)] at ha
    have hcell : ∀ i (u : Value), (gcs M)[i]? = some u → W.cell? ⟨gb, i, none⟩ = some u := fun i u hu => by
      have := World.ownsRow.cells hrow (g := gb) rfl i u hu
      rwa [Addr.add_lit, Nat.zero_add] at this
    exact ⟨hcell _ _ ha.1, hcell _ _ ha.2.1, hcell _ _ ha.2.2⟩
theorem ecs_consU (y : Ed) (L : List Ed) : ecs (y :: L) = [.int .i64 y.t, .int .i64 y.w] ++ ecs L := by simp [ecs]
theorem found_e {L : List Ed} {x : Int} {ie : Nat} (h : foundB (ends L) x = true) (he : findN (ends L) x = ie) : ie < L.length := by
  unfold foundB at h
  rw [he] at h
  by_cases hl : ie < L.length
  · exact hl
  · rw [List.getElem?_eq_none (by rw [ends_len]; omega)] at h
    cases h
theorem flatV {W : World} {gb gn gc : Nat} {M : List (Vx × Value)} (h : RG W (.slice (some ⟨gb, 0, none⟩) gn gc) M) : ∀ j u, (gcs M)[j]? = some u → W.cell? ((⟨gb, 0, none⟩ : Addr).add j) = some u :=
  fun j u hu => World.ownsRow.cells h.row (g := gb) rfl j u hu
theorem over_mid (A B : List (Vx × Value)) (x y : Vx × Value) : over (gcs (A ++ x :: B)) (A.length * 3) [.int .i64 y.1.id, .int .i64 y.1.val, y.2] = gcs (A ++ y :: B) := by
  rw [gcs_app, gcs_app, gcs_cons, gcs_cons]
  unfold over
  have hl := gcs_len A
  rw [List.take_left' hl, List.drop_append, List.drop_of_length_le (by simp; omega), hl]
  simp
set_option maxRecDepth 100000 in
set_option maxHeartbeats 2000000 in
/-- An edge goes. -/
theorem one_drop {w : World} {go : Option Addr} {gn gc : Nat} {M : List (Vx × Value)} {m : Mu} {at_ : Nat} (h : OneIn w go gn gc M m at_ true) (hk : m.k = 1) {x : Vx × Value} (hx : M[at_]? = some x) {ie : Nat} (he : findN (ends x.1.es) m.t = ie) (hfe : foundB (ends x.1.es) m.t = true) :
    Calls Try.prog 47 #[.slice go gn gc, .agg #[.int .i64 m.k, .int .i64 m.i, .int .i64 m.t, .int .i64 m.v]] w fun r w' => ∃ v' M', r = .returned (.tuple #[v', .bool true]) ∧ M'.map (·.1) = (M.map (·.1)).take at_ ++ (⟨x.1.id, x.1.val, x.1.es.take ie ++ x.1.es.drop (ie + 1)⟩ :: (M.map (·.1)).drop (at_ + 1)) ∧ RG w' v' M' ∧ Below w.heap.size w w' := by
  have hlt := found_ltO h
  obtain ⟨eo, en, ec, hen, hec, heo, ⟨gb, rfl, HCe'⟩, HEd', hie, hxM, hesl⟩ := one_edges h hx he hfe
  obtain ⟨xv, xe⟩ := x
  simp only at hen hec heo HCe' HEd' hie hesl he hfe hxM hx ⊢
  subst hec
  have HCe : Hid _ := HCe'
  have HEd : Hid _ := HEd'
  have HXM : Hid _ := hxM
  have HX : Hid _ := hx
  have HEN : Hid _ := hen
  have HEO : Hid _ := heo
  have HE0 : Hid _ := he
  have HE1 : Hid _ := hfe
  clear HCe' HEd' hxM hx heo he hfe
  have HI : Hid _ := h
  obtain ⟨hgn, hgc, hgo, hat, hV⟩ := h.shape
  have hb1 : Below w.heap.size w (w.alloc (.cells #[.int .i64 m.k, .int .i64 m.i, .int .i64 m.t, .int .i64 m.v] 45)) := one_newU _ _
  have hbig := h.big
  have HF : Hid (∀ W, Below w.heap.size w W → Calls Try.prog 35 #[.slice (some ⟨gb, 0, none⟩) gn gc, .int .i64 m.i] W fun r w' => r = .returned (.tuple #[.int .i64 at_, .bool true]) ∧ Below W.heap.size W w') := fun W hb => reffind_n gc (by rw [List.length_map]; exact hgn) (hV.new hb) (by rw [List.length_map]; omega) h.at0 h.fb0
  have HB : Hid _ := heap_alloc_new w (.cells #[.int .i64 m.k, .int .i64 m.i, .int .i64 m.t, .int .i64 m.v] 45)
  have HB1 : Hid _ := hb1
  have HKk : Hid _ := hk
  have HGn : Hid (gn = M.length) := hgn
  have HGo : Hid _ := hgo
  have hg5 : gn ≤ 500000 := by omega
  clear h hV hb1 hk hgn hgo
  go_enter Try.func47, Try.ntmps47
  clear HGo
  have hatg : at_ < gn := by have := HGn.out; omega
  have henk : en ≤ 500000 := by omega
  clear hen hesl
  go_upto_region 11 with (go_at_call 35; refine (HF.out _ HB1.out).mono ?_; rintro r w2 ⟨rfl, hb2⟩; have hbx := (hb2.block _ (lt_of_block HB.out)).trans HB.out; obtain ⟨c0, c1, c2, c3⟩ := cellU4 (y := m) hbx; rw [HKk.out] at c0; have HBX : Hid _ := hbx; have HB2 : Hid _ := HB1.out.trans (hb2.mono HB1.out.size); clear hbx hb2; obtain ⟨y0, y1, y2⟩ := HCe.out w2 HB2.out)
  obtain ⟨W3, hW3⟩ : ∃ W3, w2.alloc (.cells #[.int .i64 xv.id, .int .i64 xv.val, .slice eo en ec] 70) = W3 := ⟨_, rfl⟩
  have hb3 : Below w2.heap.size w2 W3 := by rw [← hW3]; exact one_newU _ _
  have hv3 : W3.heap[w2.heap.size]? = some (.cells #[.int .i64 xv.id, .int .i64 xv.val, .slice eo en ec] 70 (0, 0)) := by rw [← hW3]; exact heap_alloc_new _ _
  have hm3 := (hb3.block _ (lt_of_block HBX.out)).trans HBX.out
  have HB3 : Hid (Below w.heap.size w W3) := HB2.out.trans (hb3.mono HB2.out.size)
  have H23 : Hid (Below w2.heap.size w2 W3) := hb3
  have HV3 : Hid _ := hv3
  have HM3 : Hid _ := hm3
  obtain ⟨p0, p1, p2⟩ := box3 hv3
  obtain ⟨q0, q1, q2, q3⟩ := cellU4 (y := m) hm3
  rw [HKk.out] at q0
  simp only [hW3]
  clear hW3 hb3 hv3 hm3 c0 c1 c2 c3 y0 y1 y2 HBX HF
  go_upto_region 13 with (go_at_call 76; refine (HEd.out W3 HB3.out).mono ?_; rintro r w4 ⟨rfl, hb4⟩; have hv4 := (hb4.block _ (lt_of_block HV3.out)).trans HV3.out; have hm4 := (hb4.block _ (lt_of_block HM3.out)).trans HM3.out; obtain ⟨q0, q1, q2, q3⟩ := cellU4 (y := m) hm4; rw [HKk.out] at q0; have HV4 : Hid _ := hv4; have HM4 : Hid _ := hm4; have HB4 : Hid (Below w.heap.size w w4) := HB3.out.trans (hb4.mono HB3.out.size); have H24 : Hid (Below w2.heap.size w2 w4) := H23.out.trans (hb4.mono H23.out.size); have hl4 : w2.heap.size < w4.heap.size := lt_of_block hv4; clear hv4 hm4 hb4)
  have hrg := HI.out.rg.new HB4.out
  have heds := hrg.eds (xv, .slice eo en ec) (List.mem_of_getElem? HX.out)
  have heds' : w4.ownsRow 0 74 2 (.slice eo en ec) en (ecs xv.es) := by have := HEN.out; rw [← this] at heds; exact heds
  have hel : (ecs xv.es).length = en * 2 := heds'.1
  have hell : xv.es.length = en := HEN.out.symm
  have heo := HEO.out
  refine one_r13 (go := eo) (gn := en) (gc := ec) (at_ := ie) (at2 := ie + 1) (bv := w2.heap.size) (s1 := ecs (xv.es.take ie)) (s2 := ecs (xv.es.drop (ie + 1))) rfl rfl rfl
    (fun W hb => (box3 ((hb.block _ (lt_of_block HV4.out)).trans HV4.out)).2.2) (fun W hb => froz ((hb.block _ (lt_of_block HV4.out)).trans HV4.out))
    (by rcases heo.2 with ⟨_, e2, _⟩ | e; have := found_e HE1.out HE0.out; omega; exact e) (by simp) (by have := found_e HE1.out HE0.out; omega) heo.1 (by omega)
    (by rw [← ecs_take, List.length_take]; omega) (fun W hb => by rw [← ecs_take]; exact SrcF.new (src_take heds' ie (by omega)) hb) (ecs_one _)
    (by rw [← ecs_drop, List.length_drop]; omega) (fun W hb => by rw [← ecs_drop]; exact SrcF.new (src_drop heds' (ie + 1)) hb) (ecs_one _) ?_
  intro X W rv hown hlow
  obtain ⟨ne, hne⟩ : ∃ ne : List Ed, xv.es.take ie ++ xv.es.drop (ie + 1) = ne := ⟨_, rfl⟩
  have hown' : W.ownsRow 0 74 2 rv ne.length (ecs ne) := by
    have hl : ne.length = 0 + ie + (en - (ie + 1)) := by rw [← hne]; simp; omega
    rw [hl, ← hne]
    rw [ecs_app]
    exact own_low (by simpa [List.append_assoc] using hown) (Nat.zero_le _)
  have hbv := (hlow.block _ (lt_of_block HV4.out)).trans HV4.out
  obtain ⟨W5, hW5⟩ : ∃ W5, W.setCell ⟨w2.heap.size, 2, none⟩ rv = W5 := ⟨_, rfl⟩
  have f5 : Fr W W5 (fun k => k = w2.heap.size) := by rw [← hW5]; exact Fr.setCell (S := fun k => k = w2.heap.size) W ⟨w2.heap.size, 2, none⟩ _ rfl
  have hv5 : W5.heap[w2.heap.size]? = some (.cells #[.int .i64 xv.id, .int .i64 xv.val, rv] 70 (0, 0)) := by rw [← hW5]; exact set3_2 hbv _
  have hrg2 : RG w2 (.slice (some ⟨gb, 0, none⟩) gn gc) M := HI.out.rg.new HB2.out
  have h2W : Below w2.heap.size w2 W := H24.out.trans (hlow.mono H24.out.size)
  have f25 : Fr w2 W5 (fun k => k = w2.heap.size) := (Fr.ofBelow h2W (fun k => k = w2.heap.size)).trans f5 (fun _ _ h => h)
  have hR5 : RG W5 (.slice (some ⟨gb, 0, none⟩) gn gc) M := ⟨own_keep hrg2.row f25 (fun k hk e => by have := (World.ownsRow.lt hrg2.row k hk).2; omega), fun y hy => own_keep (hrg2.eds y hy) f25 (fun k hk e => by have := (World.ownsRow.lt (hrg2.eds y hy) k hk).2; omega)⟩
  have HO5 : Hid (W5.ownsRow 0 74 2 rv ne.length (ecs ne)) := own_keep hown' f5 (fun k hk e => by have := (World.ownsRow.lt hown k hk).1; omega)
  have HB5 : Hid (Below w.heap.size w W5) := HB2.out.trans (f25.below HB2.out.size (fun k hk => by have := HB2.out.size; omega))
  obtain ⟨ro, rn, rc, hrv⟩ := own_any hown
  subst hrv
  have HR5 : Hid _ := hR5
  have HV5 : Hid _ := hv5
  obtain ⟨p0, p1, p2⟩ := box3 hv5
  simp only [hW5, puts]
  generalize X 74 = x74
  generalize X 75 = x75
  generalize X 76 = x76
  generalize X 77 = x77
  generalize X 78 = x78
  generalize X 79 = x79
  generalize X 80 = x80
  generalize X 81 = x81
  generalize X 82 = x82
  generalize X 83 = x83
  generalize X 84 = x84
  generalize X 85 = x85
  generalize X 86 = x86
  clear hW5 f5 hrg2 h2W f25 hbv hlow hown hown' hrg heds heds' heo q0 q1 q2 q3 HV4 HM4 HB4 H24 hell hel hR5
  simp only [Act.put, List.setIfInBounds_toArray, List.set_cons_succ, List.set_cons_zero]
  obtain ⟨i1, hj1, hy0, hy1, hy2⟩ := info_parts infoRVx
  have lv5 := lt_of_block hv5
  go_upto_region 18 with (at_builtin; refine wpList_append_own_at _ rfl _ _ 28 rfl (W5.heap.size) 70 i1 (.agg #[.int .i64 0, .int .i64 0, .slice none 0 0]) 3 40 Try.underlying28 hj1 hy0 hy1 hy2 rfl (by decide) _ _ _ rfl (own_emptyG (Nat.le_refl _)) ⟨gb, 0, none⟩ gn gc (gcs M) rfl (by rw [gcs_len, ← HGn.out]) (flatV (HR5.out.new (one_newU _ _))) HR5.out.one (by unfold maxLen; omega) (by omega) (by simp) ?_)
  intro v' w6 hown6 hgrow6 _ hat6
  have f6 : Fr W5 w6 (fun k => W5.heap.size ≤ k) := (Fr.alloc W5 _ (fun k => W5.heap.size ≤ k)).trans (Fr.grown hgrow6 (S := fun k => W5.heap.size ≤ k) (fun k hk => by have e := Option.some.inj hk; exact Nat.le_of_eq e)) (fun _ _ h => h)
  have hv6 := (f6.block _ lv5 (by omega)).trans hv5
  obtain ⟨g6, cap6, cur6, hv', hn6, hblk, hcur⟩ := own_blk hown6 (by omega)
  have hcs : ∀ i u, (gcs M)[i]? = some u → w6.cell? ⟨g6, i, none⟩ = some u := fun i u hu => by
    have := World.ownsRow.cells hown6 (g := g6) (by rw [hv']; rfl) i u hu
    rwa [Addr.add_lit, Nat.zero_add] at this
  have ha := gcs_at (M.take at_) (M.drop (at_ + 1)) (xv, .slice eo en ec)
  rw [← HXM.out, List.length_take, Nat.min_eq_left (by omega)] at ha
  have k0 := hcs _ _ ha.1
  have k1 := hcs _ _ ha.2.1
  have k2 := hcs _ _ ha.2.2
  have s0 := hblk.soft (at_ * 3)
  have s1 := hblk.soft (at_ * 3 + 1)
  have s2 := hblk.soft (at_ * 3 + 2)
  obtain ⟨z0, z1, z2⟩ := box3 hv6
  have HBk : Hid _ := hblk
  have HCu : Hid _ := hcur
  have HF6 : Hid _ := f6
  have hn6' := hn6
  subst hv'
  clear hown6 hgrow6 hat6 hblk hcur f6 hcs ha hv6 p0 p1 p2 lv5 hv5
  go_upto_region 19 with (fail)
  obtain ⟨W7, hW7⟩ : ∃ W7, w6.setCells g6 (at_ * 3) [.int .i64 xv.id, .int .i64 xv.val, .slice ro rn rc] = W7 := ⟨_, rfl⟩
  have hW7' : ((w6.setCell ⟨g6, at_ * 3, none⟩ (.int .i64 xv.id)).setCell ⟨g6, at_ * 3 + 1, none⟩ (.int .i64 xv.val)).setCell ⟨g6, at_ * 3 + 2, none⟩ (.slice ro rn rc) = W7 := hW7
  simp only [hW7']
  have hgM := HGn.out
  have hcl := HBk.out.size
  have hcap : at_ * 3 + 3 ≤ cap6 * 3 := by have := HBk.out.low; omega
  have hbk7 := HBk.out.set (at_ * 3) [.int .i64 xv.id, .int .i64 xv.val, .slice ro rn rc] (by simpa using hcap)
  have hrow7 := hbk7.own (n := gn) hn6
  rw [over_take_in _ _ _ (by simp; omega) (by rw [hcl]; omega), HCu.out] at hrow7
  have f67 : Fr w6 W7 (fun k => W5.heap.size ≤ k) := by rw [← hW7]; exact fr_setCells g6 HBk.out.low _ _ _
  have f57 : Fr W5 W7 (fun k => W5.heap.size ≤ k) := HF6.out.trans f67 (fun _ _ h => h)
  have hmid := over_mid (M.take at_) (M.drop (at_ + 1)) (xv, .slice eo en ec) (⟨xv.id, xv.val, ne⟩, .slice ro rn rc)
  rw [← HXM.out, List.length_take, Nat.min_eq_left (by omega)] at hmid
  have HR7 : Hid (RG W7 (.slice (some ⟨g6, 0, none⟩) gn cap6) (M.take at_ ++ (⟨xv.id, xv.val, ne⟩, .slice ro rn rc) :: M.drop (at_ + 1))) := by
    refine ⟨?_, fun y hy => ?_⟩
    · have hl : (M.take at_ ++ (⟨xv.id, xv.val, ne⟩, Value.slice ro rn rc) :: M.drop (at_ + 1)).length = gn := by simp; omega
      rw [hl, ← hmid, hW7] at *
      exact own_low hrow7 (Nat.zero_le _)
    · rcases List.mem_append.1 hy with hy | hy
      · exact own_keep (HR5.out.eds y (List.mem_of_mem_take hy)) f57 (fun k hk e => by have := (World.ownsRow.lt (HR5.out.eds y (List.mem_of_mem_take hy)) k hk).2; omega)
      · rcases List.mem_cons.1 hy with rfl | hy
        · exact own_keep HO5.out f57 (fun k hk e => by have := (World.ownsRow.lt HO5.out k hk).2; omega)
        · exact own_keep (HR5.out.eds y (List.mem_of_mem_drop hy)) f57 (fun k hk e => by have := (World.ownsRow.lt (HR5.out.eds y (List.mem_of_mem_drop hy)) k hk).2; omega)
  have HB7 : Hid (Below w.heap.size w W7) := HB5.out.trans (f57.below HB5.out.size (fun k hk => Nat.le_trans HB5.out.size hk))
  clear hW7 hW7' hcl hcap hbk7 hrow7 f67 f57 hmid k0 k1 k2 s0 s1 s2 z0 z1 z2 hgM
  go_wp2
  go_ret2
  refine ⟨_, _, rfl, ?_, HR7.out, HB7.out⟩
  rw [hne]
  simp
end Go.Proofs.Ythnhmhjcpdomcaa
end

section
/- The document's one: an edge comes; nothing changes. -/
namespace Go.Proofs.Ythnhmhjcpdomcaa
open Go.RowKit Go.Sort
set_option maxRecDepth 100000 in
set_option maxHeartbeats 2000000 in
/-- An edge comes. -/
theorem one_add {w : World} {go : Option Addr} {gn gc : Nat} {M : List (Vx × Value)} {m : Mu} {at_ : Nat} (h : OneIn w go gn gc M m at_ true) (hk : m.k = 4) {x : Vx × Value} (hx : M[at_]? = some x) {ie : Nat} (he : findN (ends x.1.es) m.t = ie) (hfe : foundB (ends x.1.es) m.t = false) :
    Calls Try.prog 47 #[.slice go gn gc, .agg #[.int .i64 m.k, .int .i64 m.i, .int .i64 m.t, .int .i64 m.v]] w fun r w' => ∃ v' M', r = .returned (.tuple #[v', .bool true]) ∧ M'.map (·.1) = (M.map (·.1)).take at_ ++ (⟨x.1.id, x.1.val, x.1.es.take ie ++ ⟨m.t, m.v⟩ :: x.1.es.drop ie⟩ :: (M.map (·.1)).drop (at_ + 1)) ∧ RG w' v' M' ∧ Below w.heap.size w w' := by
  have hlt := found_ltO h
  obtain ⟨eo, en, ec, hen, hec, heo, ⟨gb, rfl, HCe'⟩, HEd', hie, hxM, hesl⟩ := one_edges h hx he hfe
  obtain ⟨xv, xe⟩ := x
  simp only at hen hec heo HCe' HEd' hie hesl he hfe hxM hx ⊢
  subst hec
  have HCe : Hid _ := HCe'
  have HEd : Hid _ := HEd'
  have HXM : Hid _ := hxM
  have HX : Hid _ := hx
  have HEN : Hid _ := hen
  have HEO : Hid _ := heo
  have HE0 : Hid _ := he
  have HE1 : Hid _ := hfe
  clear HCe' HEd' hxM hx heo he hfe
  have HI : Hid _ := h
  obtain ⟨hgn, hgc, hgo, hat, hV⟩ := h.shape
  have hb1 : Below w.heap.size w (w.alloc (.cells #[.int .i64 m.k, .int .i64 m.i, .int .i64 m.t, .int .i64 m.v] 45)) := one_newU _ _
  have hbig := h.big
  have HF : Hid (∀ W, Below w.heap.size w W → Calls Try.prog 35 #[.slice (some ⟨gb, 0, none⟩) gn gc, .int .i64 m.i] W fun r w' => r = .returned (.tuple #[.int .i64 at_, .bool true]) ∧ Below W.heap.size W w') := fun W hb => reffind_n gc (by rw [List.length_map]; exact hgn) (hV.new hb) (by rw [List.length_map]; omega) h.at0 h.fb0
  have HB : Hid _ := heap_alloc_new w (.cells #[.int .i64 m.k, .int .i64 m.i, .int .i64 m.t, .int .i64 m.v] 45)
  have HB1 : Hid _ := hb1
  have HKk : Hid _ := hk
  have HGn : Hid (gn = M.length) := hgn
  have HGo : Hid _ := hgo
  have hg5 : gn ≤ 500000 := by omega
  clear h hV hb1 hk hgn hgo
  go_enter Try.func47, Try.ntmps47
  clear HGo
  have hatg : at_ < gn := by have := HGn.out; omega
  have henk : en ≤ 500000 := by omega
  clear hen hesl
  go_upto_region 11 with (go_at_call 35; refine (HF.out _ HB1.out).mono ?_; rintro r w2 ⟨rfl, hb2⟩; have hbx := (hb2.block _ (lt_of_block HB.out)).trans HB.out; obtain ⟨c0, c1, c2, c3⟩ := cellU4 (y := m) hbx; rw [HKk.out] at c0; have HBX : Hid _ := hbx; have HB2 : Hid _ := HB1.out.trans (hb2.mono HB1.out.size); clear hbx hb2; obtain ⟨y0, y1, y2⟩ := HCe.out w2 HB2.out)
  obtain ⟨W3, hW3⟩ : ∃ W3, w2.alloc (.cells #[.int .i64 xv.id, .int .i64 xv.val, .slice eo en ec] 70) = W3 := ⟨_, rfl⟩
  have hb3 : Below w2.heap.size w2 W3 := by rw [← hW3]; exact one_newU _ _
  have hv3 : W3.heap[w2.heap.size]? = some (.cells #[.int .i64 xv.id, .int .i64 xv.val, .slice eo en ec] 70 (0, 0)) := by rw [← hW3]; exact heap_alloc_new _ _
  have hm3 := (hb3.block _ (lt_of_block HBX.out)).trans HBX.out
  have HB3 : Hid (Below w.heap.size w W3) := HB2.out.trans (hb3.mono HB2.out.size)
  have H23 : Hid (Below w2.heap.size w2 W3) := hb3
  have HV3 : Hid _ := hv3
  have HM3 : Hid _ := hm3
  obtain ⟨p0, p1, p2⟩ := box3 hv3
  obtain ⟨q0, q1, q2, q3⟩ := cellU4 (y := m) hm3
  rw [HKk.out] at q0
  simp only [hW3]
  clear hW3 hb3 hv3 hm3 c0 c1 c2 c3 y0 y1 y2 HBX HF
  go_upto_region 15 with (go_at_call 76; refine (HEd.out W3 HB3.out).mono ?_; rintro r w4 ⟨rfl, hb4⟩; have hv4 := (hb4.block _ (lt_of_block HV3.out)).trans HV3.out; have hm4 := (hb4.block _ (lt_of_block HM3.out)).trans HM3.out; obtain ⟨q0, q1, q2, q3⟩ := cellU4 (y := m) hm4; rw [HKk.out] at q0; have HV4 : Hid _ := hv4; have HM4 : Hid _ := hm4; have HB4 : Hid (Below w.heap.size w w4) := HB3.out.trans (hb4.mono HB3.out.size); have H24 : Hid (Below w2.heap.size w2 w4) := H23.out.trans (hb4.mono H23.out.size); have hl4 : w2.heap.size < w4.heap.size := lt_of_block hv4; clear hv4 hm4 hb4)
  have hrg := HI.out.rg.new HB4.out
  have heds := hrg.eds (xv, .slice eo en ec) (List.mem_of_getElem? HX.out)
  have heds' : w4.ownsRow 0 74 2 (.slice eo en ec) en (ecs xv.es) := by have := HEN.out; rw [← this] at heds; exact heds
  have hel : (ecs xv.es).length = en * 2 := heds'.1
  have hell : xv.es.length = en := HEN.out.symm
  have heo := HEO.out
  refine one_r15 (go := eo) (gn := en) (gc := ec) (at_ := ie) (bv := w2.heap.size) (bm := w.heap.size) (m := m) (s1 := ecs (xv.es.take ie)) (s2 := ecs (xv.es.drop ie)) rfl rfl rfl rfl
    (fun W hb => (box3 ((hb.block _ (lt_of_block HV4.out)).trans HV4.out)).2.2) (fun W hb => froz ((hb.block _ (lt_of_block HV4.out)).trans HV4.out))
    (by rcases heo.2 with ⟨e1, e2, e3⟩ | e; exact .inl ⟨e1, e2, e3, by omega⟩; exact .inr e) (by omega) heo.1 (by omega)
    (fun W hb => (cellU4 (y := m) ((hb.block _ (lt_of_block HM4.out)).trans HM4.out)).2.2.1) (fun W hb => (cellU4 (y := m) ((hb.block _ (lt_of_block HM4.out)).trans HM4.out)).2.2.2)
    (by rw [← ecs_take, List.length_take]; omega) (fun W hb => by rw [← ecs_take]; exact SrcF.new (src_take heds' ie (by omega)) hb) (ecs_one _)
    (by rw [← ecs_drop, List.length_drop]; omega) (fun W hb => by rw [← ecs_drop]; exact SrcF.new (src_drop heds' ie) hb) (ecs_one _) ?_
  intro X W rv hown hlow
  obtain ⟨ne, hne⟩ : ∃ ne : List Ed, xv.es.take ie ++ ⟨m.t, m.v⟩ :: xv.es.drop ie = ne := ⟨_, rfl⟩
  have hown' : W.ownsRow 0 74 2 rv ne.length (ecs ne) := by
    have hl : ne.length = 0 + ie + 1 + (en - ie) := by rw [← hne]; simp; omega
    rw [hl, ← hne]
    rw [ecs_app, ecs_consU]
    exact own_low (by simpa [List.append_assoc] using hown) (Nat.zero_le _)
  have hbv := (hlow.block _ (lt_of_block HV4.out)).trans HV4.out
  obtain ⟨W5, hW5⟩ : ∃ W5, W.setCell ⟨w2.heap.size, 2, none⟩ rv = W5 := ⟨_, rfl⟩
  have f5 : Fr W W5 (fun k => k = w2.heap.size) := by rw [← hW5]; exact Fr.setCell (S := fun k => k = w2.heap.size) W ⟨w2.heap.size, 2, none⟩ _ rfl
  have hv5 : W5.heap[w2.heap.size]? = some (.cells #[.int .i64 xv.id, .int .i64 xv.val, rv] 70 (0, 0)) := by rw [← hW5]; exact set3_2 hbv _
  have hrg2 : RG w2 (.slice (some ⟨gb, 0, none⟩) gn gc) M := HI.out.rg.new HB2.out
  have h2W : Below w2.heap.size w2 W := H24.out.trans (hlow.mono H24.out.size)
  have f25 : Fr w2 W5 (fun k => k = w2.heap.size) := (Fr.ofBelow h2W (fun k => k = w2.heap.size)).trans f5 (fun _ _ h => h)
  have hR5 : RG W5 (.slice (some ⟨gb, 0, none⟩) gn gc) M := ⟨own_keep hrg2.row f25 (fun k hk e => by have := (World.ownsRow.lt hrg2.row k hk).2; omega), fun y hy => own_keep (hrg2.eds y hy) f25 (fun k hk e => by have := (World.ownsRow.lt (hrg2.eds y hy) k hk).2; omega)⟩
  have HO5 : Hid (W5.ownsRow 0 74 2 rv ne.length (ecs ne)) := own_keep hown' f5 (fun k hk e => by have := (World.ownsRow.lt hown k hk).1; omega)
  have HB5 : Hid (Below w.heap.size w W5) := HB2.out.trans (f25.below HB2.out.size (fun k hk => by have := HB2.out.size; omega))
  obtain ⟨ro, rn, rc, hrv⟩ := own_any hown
  subst hrv
  have HR5 : Hid _ := hR5
  have HV5 : Hid _ := hv5
  obtain ⟨p0, p1, p2⟩ := box3 hv5
  simp only [hW5, puts]
  generalize X 94 = x94
  generalize X 95 = x95
  generalize X 96 = x96
  generalize X 97 = x97
  generalize X 98 = x98
  generalize X 99 = x99
  generalize X 100 = x100
  generalize X 101 = x101
  generalize X 102 = x102
  generalize X 103 = x103
  generalize X 104 = x104
  generalize X 105 = x105
  generalize X 106 = x106
  generalize X 107 = x107
  generalize X 108 = x108
  generalize X 109 = x109
  generalize X 110 = x110
  generalize X 111 = x111
  generalize X 112 = x112
  clear hW5 f5 hrg2 h2W f25 hbv hlow hown hown' hrg heds heds' heo q0 q1 q2 q3 HV4 HM4 HB4 H24 hell hel hR5
  simp only [Act.put, List.setIfInBounds_toArray, List.set_cons_succ, List.set_cons_zero]
  obtain ⟨i1, hj1, hy0, hy1, hy2⟩ := info_parts infoRVx
  have lv5 := lt_of_block hv5
  go_upto_region 18 with (at_builtin; refine wpList_append_own_at _ rfl _ _ 28 rfl (W5.heap.size) 70 i1 (.agg #[.int .i64 0, .int .i64 0, .slice none 0 0]) 3 40 Try.underlying28 hj1 hy0 hy1 hy2 rfl (by decide) _ _ _ rfl (own_emptyG (Nat.le_refl _)) ⟨gb, 0, none⟩ gn gc (gcs M) rfl (by rw [gcs_len, ← HGn.out]) (flatV (HR5.out.new (one_newU _ _))) HR5.out.one (by unfold maxLen; omega) (by omega) (by simp) ?_)
  intro v' w6 hown6 hgrow6 _ hat6
  have f6 : Fr W5 w6 (fun k => W5.heap.size ≤ k) := (Fr.alloc W5 _ (fun k => W5.heap.size ≤ k)).trans (Fr.grown hgrow6 (S := fun k => W5.heap.size ≤ k) (fun k hk => by have e := Option.some.inj hk; exact Nat.le_of_eq e)) (fun _ _ h => h)
  have hv6 := (f6.block _ lv5 (by omega)).trans hv5
  obtain ⟨g6, cap6, cur6, hv', hn6, hblk, hcur⟩ := own_blk hown6 (by omega)
  have hcs : ∀ i u, (gcs M)[i]? = some u → w6.cell? ⟨g6, i, none⟩ = some u := fun i u hu => by
    have := World.ownsRow.cells hown6 (g := g6) (by rw [hv']; rfl) i u hu
    rwa [Addr.add_lit, Nat.zero_add] at this
  have ha := gcs_at (M.take at_) (M.drop (at_ + 1)) (xv, .slice eo en ec)
  rw [← HXM.out, List.length_take, Nat.min_eq_left (by omega)] at ha
  have k0 := hcs _ _ ha.1
  have k1 := hcs _ _ ha.2.1
  have k2 := hcs _ _ ha.2.2
  have s0 := hblk.soft (at_ * 3)
  have s1 := hblk.soft (at_ * 3 + 1)
  have s2 := hblk.soft (at_ * 3 + 2)
  obtain ⟨z0, z1, z2⟩ := box3 hv6
  have HBk : Hid _ := hblk
  have HCu : Hid _ := hcur
  have HF6 : Hid _ := f6
  have hn6' := hn6
  subst hv'
  clear hown6 hgrow6 hat6 hblk hcur f6 hcs ha hv6 p0 p1 p2 lv5 hv5
  go_upto_region 19 with (fail)
  obtain ⟨W7, hW7⟩ : ∃ W7, w6.setCells g6 (at_ * 3) [.int .i64 xv.id, .int .i64 xv.val, .slice ro rn rc] = W7 := ⟨_, rfl⟩
  have hW7' : ((w6.setCell ⟨g6, at_ * 3, none⟩ (.int .i64 xv.id)).setCell ⟨g6, at_ * 3 + 1, none⟩ (.int .i64 xv.val)).setCell ⟨g6, at_ * 3 + 2, none⟩ (.slice ro rn rc) = W7 := hW7
  simp only [hW7']
  have hgM := HGn.out
  have hcl := HBk.out.size
  have hcap : at_ * 3 + 3 ≤ cap6 * 3 := by have := HBk.out.low; omega
  have hbk7 := HBk.out.set (at_ * 3) [.int .i64 xv.id, .int .i64 xv.val, .slice ro rn rc] (by simpa using hcap)
  have hrow7 := hbk7.own (n := gn) hn6
  rw [over_take_in _ _ _ (by simp; omega) (by rw [hcl]; omega), HCu.out] at hrow7
  have f67 : Fr w6 W7 (fun k => W5.heap.size ≤ k) := by rw [← hW7]; exact fr_setCells g6 HBk.out.low _ _ _
  have f57 : Fr W5 W7 (fun k => W5.heap.size ≤ k) := HF6.out.trans f67 (fun _ _ h => h)
  have hmid := over_mid (M.take at_) (M.drop (at_ + 1)) (xv, .slice eo en ec) (⟨xv.id, xv.val, ne⟩, .slice ro rn rc)
  rw [← HXM.out, List.length_take, Nat.min_eq_left (by omega)] at hmid
  have HR7 : Hid (RG W7 (.slice (some ⟨g6, 0, none⟩) gn cap6) (M.take at_ ++ (⟨xv.id, xv.val, ne⟩, .slice ro rn rc) :: M.drop (at_ + 1))) := by
    refine ⟨?_, fun y hy => ?_⟩
    · have hl : (M.take at_ ++ (⟨xv.id, xv.val, ne⟩, Value.slice ro rn rc) :: M.drop (at_ + 1)).length = gn := by simp; omega
      rw [hl, ← hmid, hW7] at *
      exact own_low hrow7 (Nat.zero_le _)
    · rcases List.mem_append.1 hy with hy | hy
      · exact own_keep (HR5.out.eds y (List.mem_of_mem_take hy)) f57 (fun k hk e => by have := (World.ownsRow.lt (HR5.out.eds y (List.mem_of_mem_take hy)) k hk).2; omega)
      · rcases List.mem_cons.1 hy with rfl | hy
        · exact own_keep HO5.out f57 (fun k hk e => by have := (World.ownsRow.lt HO5.out k hk).2; omega)
        · exact own_keep (HR5.out.eds y (List.mem_of_mem_drop hy)) f57 (fun k hk e => by have := (World.ownsRow.lt (HR5.out.eds y (List.mem_of_mem_drop hy)) k hk).2; omega)
  have HB7 : Hid (Below w.heap.size w W7) := HB5.out.trans (f57.below HB5.out.size (fun k hk => Nat.le_trans HB5.out.size hk))
  clear hW7 hW7' hcl hcap hbk7 hrow7 f67 f57 hmid k0 k1 k2 s0 s1 s2 z0 z1 z2 hgM
  go_wp2
  go_ret2
  refine ⟨_, _, rfl, ?_, HR7.out, HB7.out⟩
  rw [hne]
  simp
set_option maxRecDepth 100000 in
set_option maxHeartbeats 2000000 in
/-- No such edge goes. -/
theorem one_stay1 {w : World} {go : Option Addr} {gn gc : Nat} {M : List (Vx × Value)} {m : Mu} {at_ : Nat} (h : OneIn w go gn gc M m at_ true) (hk : m.k = 1) {x : Vx × Value} (hx : M[at_]? = some x) {ie : Nat} (he : findN (ends x.1.es) m.t = ie) (hfe : foundB (ends x.1.es) m.t = false) :
    Calls Try.prog 47 #[.slice go gn gc, .agg #[.int .i64 m.k, .int .i64 m.i, .int .i64 m.t, .int .i64 m.v]] w fun r w' => r = .returned (.tuple #[.slice go gn gc, .bool false]) ∧ Below w.heap.size w w' := by
  have hlt := found_ltO h
  obtain ⟨eo, en, ec, hen, hec, heo, ⟨gb, rfl, HCe'⟩, HEd', hie, hxM, hesl⟩ := one_edges h hx he hfe
  obtain ⟨xv, xe⟩ := x
  simp only at hen hec heo HCe' HEd' hie hesl he hfe hxM hx ⊢
  subst hec
  have HCe : Hid _ := HCe'
  have HEd : Hid _ := HEd'
  have HXM : Hid _ := hxM
  have HX : Hid _ := hx
  have HEN : Hid _ := hen
  have HEO : Hid _ := heo
  have HE0 : Hid _ := he
  have HE1 : Hid _ := hfe
  clear HCe' HEd' hxM hx heo he hfe
  have HI : Hid _ := h
  obtain ⟨hgn, hgc, hgo, hat, hV⟩ := h.shape
  have hb1 : Below w.heap.size w (w.alloc (.cells #[.int .i64 m.k, .int .i64 m.i, .int .i64 m.t, .int .i64 m.v] 45)) := one_newU _ _
  have hbig := h.big
  have HF : Hid (∀ W, Below w.heap.size w W → Calls Try.prog 35 #[.slice (some ⟨gb, 0, none⟩) gn gc, .int .i64 m.i] W fun r w' => r = .returned (.tuple #[.int .i64 at_, .bool true]) ∧ Below W.heap.size W w') := fun W hb => reffind_n gc (by rw [List.length_map]; exact hgn) (hV.new hb) (by rw [List.length_map]; omega) h.at0 h.fb0
  have HB : Hid _ := heap_alloc_new w (.cells #[.int .i64 m.k, .int .i64 m.i, .int .i64 m.t, .int .i64 m.v] 45)
  have HB1 : Hid _ := hb1
  have HKk : Hid _ := hk
  have HGn : Hid (gn = M.length) := hgn
  have HGo : Hid _ := hgo
  have hg5 : gn ≤ 500000 := by omega
  clear h hV hb1 hk hgn hgo
  go_enter Try.func47, Try.ntmps47
  clear HGo
  have hatg : at_ < gn := by have := HGn.out; omega
  have henk : en ≤ 500000 := by omega
  clear hen hesl
  go_upto_region 11 with (go_at_call 35; refine (HF.out _ HB1.out).mono ?_; rintro r w2 ⟨rfl, hb2⟩; have hbx := (hb2.block _ (lt_of_block HB.out)).trans HB.out; obtain ⟨c0, c1, c2, c3⟩ := cellU4 (y := m) hbx; rw [HKk.out] at c0; have HBX : Hid _ := hbx; have HB2 : Hid _ := HB1.out.trans (hb2.mono HB1.out.size); clear hbx hb2; obtain ⟨y0, y1, y2⟩ := HCe.out w2 HB2.out)
  obtain ⟨W3, hW3⟩ : ∃ W3, w2.alloc (.cells #[.int .i64 xv.id, .int .i64 xv.val, .slice eo en ec] 70) = W3 := ⟨_, rfl⟩
  have hb3 : Below w2.heap.size w2 W3 := by rw [← hW3]; exact one_newU _ _
  have hv3 : W3.heap[w2.heap.size]? = some (.cells #[.int .i64 xv.id, .int .i64 xv.val, .slice eo en ec] 70 (0, 0)) := by rw [← hW3]; exact heap_alloc_new _ _
  have hm3 := (hb3.block _ (lt_of_block HBX.out)).trans HBX.out
  have HB3 : Hid (Below w.heap.size w W3) := HB2.out.trans (hb3.mono HB2.out.size)
  have H23 : Hid (Below w2.heap.size w2 W3) := hb3
  have HV3 : Hid _ := hv3
  have HM3 : Hid _ := hm3
  obtain ⟨p0, p1, p2⟩ := box3 hv3
  obtain ⟨q0, q1, q2, q3⟩ := cellU4 (y := m) hm3
  rw [HKk.out] at q0
  simp only [hW3]
  clear hW3 hb3 hv3 hm3 c0 c1 c2 c3 y0 y1 y2 HBX HF
  go_wp2_with (go_at_call 76; refine (HEd.out W3 HB3.out).mono ?_; rintro r w4 ⟨rfl, hb4⟩; have hv4 := (hb4.block _ (lt_of_block HV3.out)).trans HV3.out; have hm4 := (hb4.block _ (lt_of_block HM3.out)).trans HM3.out; obtain ⟨q0, q1, q2, q3⟩ := cellU4 (y := m) hm4; rw [HKk.out] at q0; have HV4 : Hid _ := hv4; have HM4 : Hid _ := hm4; have HB4 : Hid (Below w.heap.size w w4) := HB3.out.trans (hb4.mono HB3.out.size); have H24 : Hid (Below w2.heap.size w2 w4) := H23.out.trans (hb4.mono H23.out.size); have hl4 : w2.heap.size < w4.heap.size := lt_of_block hv4; clear hv4 hm4 hb4)
  go_ret2
  exact ⟨rfl, HB4.out⟩
set_option maxRecDepth 100000 in
set_option maxHeartbeats 2000000 in
/-- An edge that is there does not come. -/
theorem one_stay4 {w : World} {go : Option Addr} {gn gc : Nat} {M : List (Vx × Value)} {m : Mu} {at_ : Nat} (h : OneIn w go gn gc M m at_ true) (hk : m.k = 4) {x : Vx × Value} (hx : M[at_]? = some x) {ie : Nat} (he : findN (ends x.1.es) m.t = ie) (hfe : foundB (ends x.1.es) m.t = true) :
    Calls Try.prog 47 #[.slice go gn gc, .agg #[.int .i64 m.k, .int .i64 m.i, .int .i64 m.t, .int .i64 m.v]] w fun r w' => r = .returned (.tuple #[.slice go gn gc, .bool false]) ∧ Below w.heap.size w w' := by
  have hlt := found_ltO h
  obtain ⟨eo, en, ec, hen, hec, heo, ⟨gb, rfl, HCe'⟩, HEd', hie, hxM, hesl⟩ := one_edges h hx he hfe
  obtain ⟨xv, xe⟩ := x
  simp only at hen hec heo HCe' HEd' hie hesl he hfe hxM hx ⊢
  subst hec
  have HCe : Hid _ := HCe'
  have HEd : Hid _ := HEd'
  have HXM : Hid _ := hxM
  have HX : Hid _ := hx
  have HEN : Hid _ := hen
  have HEO : Hid _ := heo
  have HE0 : Hid _ := he
  have HE1 : Hid _ := hfe
  clear HCe' HEd' hxM hx heo he hfe
  have HI : Hid _ := h
  obtain ⟨hgn, hgc, hgo, hat, hV⟩ := h.shape
  have hb1 : Below w.heap.size w (w.alloc (.cells #[.int .i64 m.k, .int .i64 m.i, .int .i64 m.t, .int .i64 m.v] 45)) := one_newU _ _
  have hbig := h.big
  have HF : Hid (∀ W, Below w.heap.size w W → Calls Try.prog 35 #[.slice (some ⟨gb, 0, none⟩) gn gc, .int .i64 m.i] W fun r w' => r = .returned (.tuple #[.int .i64 at_, .bool true]) ∧ Below W.heap.size W w') := fun W hb => reffind_n gc (by rw [List.length_map]; exact hgn) (hV.new hb) (by rw [List.length_map]; omega) h.at0 h.fb0
  have HB : Hid _ := heap_alloc_new w (.cells #[.int .i64 m.k, .int .i64 m.i, .int .i64 m.t, .int .i64 m.v] 45)
  have HB1 : Hid _ := hb1
  have HKk : Hid _ := hk
  have HGn : Hid (gn = M.length) := hgn
  have HGo : Hid _ := hgo
  have hg5 : gn ≤ 500000 := by omega
  clear h hV hb1 hk hgn hgo
  go_enter Try.func47, Try.ntmps47
  clear HGo
  have hatg : at_ < gn := by have := HGn.out; omega
  have henk : en ≤ 500000 := by omega
  clear hen hesl
  go_upto_region 11 with (go_at_call 35; refine (HF.out _ HB1.out).mono ?_; rintro r w2 ⟨rfl, hb2⟩; have hbx := (hb2.block _ (lt_of_block HB.out)).trans HB.out; obtain ⟨c0, c1, c2, c3⟩ := cellU4 (y := m) hbx; rw [HKk.out] at c0; have HBX : Hid _ := hbx; have HB2 : Hid _ := HB1.out.trans (hb2.mono HB1.out.size); clear hbx hb2; obtain ⟨y0, y1, y2⟩ := HCe.out w2 HB2.out)
  obtain ⟨W3, hW3⟩ : ∃ W3, w2.alloc (.cells #[.int .i64 xv.id, .int .i64 xv.val, .slice eo en ec] 70) = W3 := ⟨_, rfl⟩
  have hb3 : Below w2.heap.size w2 W3 := by rw [← hW3]; exact one_newU _ _
  have hv3 : W3.heap[w2.heap.size]? = some (.cells #[.int .i64 xv.id, .int .i64 xv.val, .slice eo en ec] 70 (0, 0)) := by rw [← hW3]; exact heap_alloc_new _ _
  have hm3 := (hb3.block _ (lt_of_block HBX.out)).trans HBX.out
  have HB3 : Hid (Below w.heap.size w W3) := HB2.out.trans (hb3.mono HB2.out.size)
  have H23 : Hid (Below w2.heap.size w2 W3) := hb3
  have HV3 : Hid _ := hv3
  have HM3 : Hid _ := hm3
  obtain ⟨p0, p1, p2⟩ := box3 hv3
  obtain ⟨q0, q1, q2, q3⟩ := cellU4 (y := m) hm3
  rw [HKk.out] at q0
  simp only [hW3]
  clear hW3 hb3 hv3 hm3 c0 c1 c2 c3 y0 y1 y2 HBX HF
  go_wp2_with (go_at_call 76; refine (HEd.out W3 HB3.out).mono ?_; rintro r w4 ⟨rfl, hb4⟩; have hv4 := (hb4.block _ (lt_of_block HV3.out)).trans HV3.out; have hm4 := (hb4.block _ (lt_of_block HM3.out)).trans HM3.out; obtain ⟨q0, q1, q2, q3⟩ := cellU4 (y := m) hm4; rw [HKk.out] at q0; have HV4 : Hid _ := hv4; have HM4 : Hid _ := hm4; have HB4 : Hid (Below w.heap.size w w4) := HB3.out.trans (hb4.mono HB3.out.size); have H24 : Hid (Below w2.heap.size w2 w4) := H23.out.trans (hb4.mono H23.out.size); have hl4 : w2.heap.size < w4.heap.size := lt_of_block hv4; clear hv4 hm4 hb4)
  go_ret2
  exact ⟨rfl, HB4.out⟩
end Go.Proofs.Ythnhmhjcpdomcaa
end

section
/- The document's one: what it returns. -/
namespace Go.Proofs.Ythnhmhjcpdomcaa
open Go.RowKit Go.Sort
theorem one_any {w : World} {gv : Value} {M : List (Vx × Value)} {m : Mu} (h : RG w gv M) (hk : 1 ≤ m.k ∧ m.k ≤ 4) (hb : M.length ≤ 500000) (hbe : ∀ x ∈ M, x.1.es.length ≤ 500000) :
    Calls Try.prog 47 #[gv, .agg #[.int .i64 m.k, .int .i64 m.i, .int .i64 m.t, .int .i64 m.v]] w fun r w' => ∃ v' M', r = .returned (.tuple #[v', .bool (doG (M.map (·.1)) m).2]) ∧ M'.map (·.1) = (doG (M.map (·.1)) m).1 ∧ RG w' v' M' ∧ Below w.heap.size w w' := by
  obtain ⟨go, gn, gc, rfl⟩ := own_any h.row
  obtain ⟨at_, hat⟩ : ∃ a, findN (ids (M.map (·.1))) m.i = a := ⟨_, rfl⟩
  have hkk : m.k = 1 ∨ m.k = 2 ∨ m.k = 3 ∨ m.k = 4 := by omega
  have same : ∀ fb, foundB (ids (M.map (·.1))) m.i = fb → doG (M.map (·.1)) m = (M.map (·.1), false) → (Calls Try.prog 47 #[.slice go gn gc, .agg #[.int .i64 m.k, .int .i64 m.i, .int .i64 m.t, .int .i64 m.v]] w fun r w' => r = .returned (.tuple #[.slice go gn gc, .bool false]) ∧ Below w.heap.size w w') →
      Calls Try.prog 47 #[.slice go gn gc, .agg #[.int .i64 m.k, .int .i64 m.i, .int .i64 m.t, .int .i64 m.v]] w fun r w' => ∃ v' M', r = .returned (.tuple #[v', .bool (doG (M.map (·.1)) m).2]) ∧ M'.map (·.1) = (doG (M.map (·.1)) m).1 ∧ RG w' v' M' ∧ Below w.heap.size w w' := fun fb _ e hc => by
    refine hc.mono ?_
    rintro r w' ⟨rfl, hb'⟩
    rw [e]
    exact ⟨_, M, rfl, rfl, h.new hb', hb'⟩
  cases hf : foundB (ids (M.map (·.1))) m.i
  · have hI : OneIn w go gn gc M m at_ false := ⟨h, hat, hf, hb, hbe⟩
    have e : doG (M.map (·.1)) m = ((M.map (·.1)).take at_ ++ ((noV m).1 ++ (M.map (·.1)).drop at_), (noV m).2) := by unfold doG; rw [hf, hat]; rfl
    by_cases hk3 : m.k = 3
    · refine (one_come hI hk3).mono ?_
      rintro r w' ⟨v', M', rfl, h1, h2, h3⟩
      rw [e]
      have en : noV m = ([⟨m.i, m.v, []⟩], true) := by unfold noV; rw [if_pos hk3]
      rw [en]
      exact ⟨v', M', rfl, by rw [h1]; rfl, h2, h3⟩
    · refine same false hf ?_ (one_not hI hk3)
      have en : noV m = ([], false) := by unfold noV; rw [if_neg hk3]
      rw [e, en]
      simp
  · have hI : OneIn w go gn gc M m at_ true := ⟨h, hat, hf, hb, hbe⟩
    have hlt := found_ltO hI
    have hx : M[at_]? = some M[at_] := List.getElem?_eq_getElem hlt
    have hd : (M.map (·.1)).drop at_ = M[at_].1 :: (M.map (·.1)).drop (at_ + 1) := by
      rw [List.drop_eq_getElem_cons (by simpa using hlt), List.getElem_map]
    have e : doG (M.map (·.1)) m = ((M.map (·.1)).take at_ ++ ((doV M[at_].1 m).1 ++ (M.map (·.1)).drop (at_ + 1)), (doV M[at_].1 m).2) := by unfold doG; rw [hf, hat, hd]; rfl
    have e0 : (M.map (·.1)).take at_ ++ ([M[at_].1] ++ (M.map (·.1)).drop (at_ + 1)) = M.map (·.1) := by
      rw [List.singleton_append, ← hd, List.take_append_drop]
    generalize hxx : M[at_] = x at *
    rcases hkk with hk1 | hk2 | hk3 | hk4
    · cases hfe : foundB (ends x.1.es) m.t
      · refine same true hf ?_ (one_stay1 hI hk1 hx rfl hfe)
        have en : doV x.1 m = ([x.1], false) := by unfold doV; rw [hk1]; simp [hfe]
        rw [e, en, e0]
      · refine (one_drop hI hk1 hx rfl hfe).mono ?_
        rintro r w' ⟨v', M', rfl, h1, h2, h3⟩
        have en : doV x.1 m = ([⟨x.1.id, x.1.val, x.1.es.take (findN (ends x.1.es) m.t) ++ x.1.es.drop (findN (ends x.1.es) m.t + 1)⟩], true) := by unfold doV; rw [hk1]; simp [hfe]
        rw [e, en]
        exact ⟨v', M', rfl, by rw [h1]; rfl, h2, h3⟩
    · refine (one_go hI hk2).mono ?_
      rintro r w' ⟨v', M', rfl, h1, h2, h3⟩
      have en : doV x.1 m = ([], true) := by unfold doV; rw [hk2]; simp
      rw [e, en]
      exact ⟨v', M', rfl, by rw [h1]; rfl, h2, h3⟩
    · refine same true hf ?_ (one_is hI hk3)
      have en : doV x.1 m = ([x.1], false) := by unfold doV; rw [hk3]; simp
      rw [e, en, e0]
    · cases hfe : foundB (ends x.1.es) m.t
      · refine (one_add hI hk4 hx rfl hfe).mono ?_
        rintro r w' ⟨v', M', rfl, h1, h2, h3⟩
        have en : doV x.1 m = ([⟨x.1.id, x.1.val, x.1.es.take (findN (ends x.1.es) m.t) ++ ⟨m.t, m.v⟩ :: x.1.es.drop (findN (ends x.1.es) m.t)⟩], true) := by unfold doV; rw [hk4]; simp [hfe]
        rw [e, en]
        exact ⟨v', M', rfl, by rw [h1]; rfl, h2, h3⟩
      · refine same true hf ?_ (one_stay4 hI hk4 hx rfl hfe)
        have en : doV x.1 m = ([x.1], false) := by unfold doV; rw [hk4]; simp [hfe]
        rw [e, en, e0]
end Go.Proofs.Ythnhmhjcpdomcaa
end
