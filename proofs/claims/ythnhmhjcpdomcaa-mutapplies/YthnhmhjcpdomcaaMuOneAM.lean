/- The document's one: a graph that is read; a vertex comes, a vertex goes, nothing changes. -/
import Derived.Test.YthnhmhjcpdomcaaMuOneR
import Derived.Test.YthnhmhjcpdomcaaMuDelM
import Derived.Test.YthnhmhjcpdomcaaGrRefKM
import Derived.Test.YthnhmhjcpdomcaaMuR14M
namespace Go.Proofs.Ythnhmhjcpdomcaa
open Go.RowKit Go.Sort
/-- A graph of the document's, as it is read. -/
structure RG (w : World) (v : Value) (M : List (Vx × Value)) : Prop where
  row : w.ownsRow 0 70 3 v M.length (gcs M)
  eds : ∀ x ∈ M, w.ownsRow 0 74 2 x.2 x.1.es.length (ecs x.1.es)
theorem RG.new {w w' : World} {v : Value} {M : List (Vx × Value)} (h : RG w v M) (hb : Below w.heap.size w w') : RG w' v M :=
  ⟨own_new h.row hb, fun x hx => own_new (h.eds x hx) hb⟩
theorem RG.at_ {w : World} {v : Value} {M : List (Vx × Value)} (h : RG w v M) : ∃ ao cap, v = .slice ao M.length cap ∧ VxAt w (fun _ => True) ao (M.map (·.1)) := by
  rcases h.row.2 with ⟨h1, h2⟩ | ⟨g, cap, cur, h1, hb, hg, hn, hc, hcs, ht⟩
  · refine ⟨none, 0, by rw [h1, h2], fun hl => ?_⟩
    rw [List.length_map] at hl; omega
  · refine ⟨some ⟨g, 0, none⟩, cap, h1, fun _ => ⟨g, 0, rfl, trivial, fun j hj => ?_⟩⟩
    have hj' : j < M.length := by simpa using hj
    have hcell : ∀ i (u : Value), (gcs M)[i]? = some u → w.cell? ⟨g, i, none⟩ = some u := fun i u hu => by
      have := h.row.cells (g := g) (by rw [h1]; rfl) i u hu
      rwa [Addr.add_lit, Nat.zero_add] at this
    have hL : M = M.take j ++ M[j] :: M.drop (j + 1) := by rw [← List.drop_eq_getElem_cons hj', List.take_append_drop]
    have ha := gcs_at (M.take j) (M.drop (j + 1)) M[j]
    rw [← hL, List.length_take, Nat.min_eq_left (by omega)] at ha
    rw [Nat.zero_add]
    have he := h.eds M[j] (List.getElem_mem hj')
    obtain ⟨eo, m, ec, hv⟩ := own_any he
    rw [hv] at he
    obtain ⟨hm, hE⟩ := own_eds he
    rw [List.getElem_map]
    refine ⟨eo, ec, hcell _ _ ha.1, hcell _ _ ha.2.1, ?_, hE.mono (fun k _ hk => trivial)⟩
    rw [hcell _ _ ha.2.2, hv, hm]
theorem RG.one {w : World} {v : Value} {M : List (Vx × Value)} (h : RG w v M) : ∀ u ∈ gcs M, u.oneCell' = true := by
  intro u hu
  obtain ⟨x, hx, h2⟩ := List.mem_flatMap.1 hu
  obtain ⟨eo, m, ec, hv⟩ := own_any (h.eds x hx)
  rw [hv] at h2
  simp at h2
  rcases h2 with rfl | rfl | rfl <;> rfl
theorem reffind_n {w : World} {P : Nat → Prop} {ao : Option Addr} {G : List Vx} {gn at_ : Nat} {x : Int} {fb : Bool} (cap : Nat) (hgn : gn = G.length) (h : VxAt w P ao G) (hl : G.length ≤ 9223372036854775807) (h1 : findN (ids G) x = at_) (h2 : foundB (ids G) x = fb) :
    Calls Try.prog 35 #[.slice ao gn cap, .int .i64 x] w fun r w' => r = .returned (.tuple #[.int .i64 at_, .bool fb]) ∧ Below w.heap.size w w' := by
  subst hgn h1 h2
  exact reffind_any cap x h hl
/-- What all ways of one have. -/
structure OneIn (w : World) (go : Option Addr) (gn gc : Nat) (M : List (Vx × Value)) (m : Mu) (at_ : Nat) (fb : Bool) : Prop where
  rg : RG w (.slice go gn gc) M
  at0 : findN (ids (M.map (·.1))) m.i = at_
  fb0 : foundB (ids (M.map (·.1))) m.i = fb
  big : M.length ≤ 500000
  bigE : ∀ x ∈ M, x.1.es.length ≤ 500000
theorem OneIn.shape {w : World} {go : Option Addr} {gn gc : Nat} {M : List (Vx × Value)} {m : Mu} {at_ : Nat} {fb : Bool} (h : OneIn w go gn gc M m at_ fb) : gn = M.length ∧ M.length ≤ gc ∧ ((go = none ∧ M.length = 0 ∧ gc = 0) ∨ ∃ gb, go = some ⟨gb, 0, none⟩) ∧ at_ ≤ M.length ∧ VxAt w (fun _ => True) go (M.map (·.1)) := by
  obtain ⟨h1, h2, h3⟩ := own_shapeG h.rg.row
  obtain ⟨ao, cap, he, hV⟩ := h.rg.at_
  cases he
  refine ⟨h1, h2, h3, ?_, hV⟩
  have := findN_le (ids (M.map (·.1))) m.i
  rw [h.at0, ids_len, List.length_map] at this
  exact this
abbrev mBox (m : Mu) : Obj := .cells #[.int .i64 m.k, .int .i64 m.i, .int .i64 m.t, .int .i64 m.v] 45
set_option maxRecDepth 100000 in
set_option maxHeartbeats 1000000 in
/-- A vertex comes. -/
theorem one_come {w : World} {go : Option Addr} {gn gc : Nat} {M : List (Vx × Value)} {m : Mu} {at_ : Nat} (h : OneIn w go gn gc M m at_ false) (hk : m.k = 3) :
    Calls Try.prog 47 #[.slice go gn gc, .agg #[.int .i64 m.k, .int .i64 m.i, .int .i64 m.t, .int .i64 m.v]] w fun r w' => ∃ v' M', r = .returned (.tuple #[v', .bool true]) ∧ M'.map (·.1) = (M.map (·.1)).take at_ ++ (⟨m.i, m.v, []⟩ :: (M.map (·.1)).drop at_) ∧ RG w' v' M' ∧ Below w.heap.size w w' := by
  have HI : Hid _ := h
  obtain ⟨hgn, hgc, hgo, hat, hV⟩ := h.shape
  have hb1 : Below w.heap.size w (w.alloc (.cells #[.int .i64 m.k, .int .i64 m.i, .int .i64 m.t, .int .i64 m.v] 45)) := one_newU _ _
  have hbig := h.big
  have HF : Hid (∀ W, Below w.heap.size w W → Calls Try.prog 35 #[.slice go gn gc, .int .i64 m.i] W fun r w' => r = .returned (.tuple #[.int .i64 at_, .bool false]) ∧ Below W.heap.size W w') := fun W hb => reffind_n gc (by rw [List.length_map]; exact hgn) (hV.new hb) (by rw [List.length_map]; omega) h.at0 h.fb0
  have HB : Hid _ := heap_alloc_new w (.cells #[.int .i64 m.k, .int .i64 m.i, .int .i64 m.t, .int .i64 m.v] 45)
  have HB1 : Hid _ := hb1
  have HKk : Hid _ := hk
  have HGn : Hid (gn = M.length) := hgn
  have HGo : Hid _ := hgo
  have hg5 : gn ≤ 500000 := by omega
  clear h hV hb1 hk hgn hgo
  go_enter Try.func47, Try.ntmps47
  go_upto_region 5 with (go_at_call 35; refine (HF.out _ HB1.out).mono ?_; rintro r w2 ⟨rfl, hb2⟩; have hbx := (hb2.block _ (lt_of_block HB.out)).trans HB.out; obtain ⟨c0, c1, c2, c3⟩ := cellU4 hbx; rw [HKk.out] at c0; have HBX : Hid _ := hbx; have HB2 : Hid _ := HB1.out.trans (hb2.mono HB1.out.size); clear hbx hb2)
  have hgn := HGn.out
  have hgo := HGo.out
  have hrg := HI.out.rg.new HB2.out
  have hrow := hrg.row
  rw [← hgn] at hrow
  refine one_r5 (go := go) (gn := gn) (gc := gc) (at_ := at_) (bm := w.heap.size) (m := m) (s1 := gcs (M.take at_)) (s2 := gcs (M.drop at_)) rfl rfl rfl rfl (by rcases hgo with ⟨e1, e2, e3⟩ | e; exact .inl ⟨e1, by omega, e3, by omega⟩; exact .inr e) (by omega) (by omega) (by omega)
    (fun W hb => (cellU4 ((hb.block _ (lt_of_block HBX.out)).trans HBX.out)).2.1) (fun W hb => (cellU4 ((hb.block _ (lt_of_block HBX.out)).trans HBX.out)).2.2.2)
    (by rw [gcs_len, List.length_take]; omega) (fun W hb => by rw [← gcs_take]; exact SrcF.new (src_take hrow at_ (by omega)) hb) (fun u hu => hrg.one u (by rw [← gcs_take] at hu; exact List.mem_of_mem_take hu))
    (by rw [gcs_len, List.length_drop]; omega) (fun W hb => by rw [← gcs_drop]; exact SrcF.new (src_drop hrow at_) hb) (fun u hu => hrg.one u (by rw [← gcs_drop] at hu; exact List.mem_of_mem_drop hu)) ?_
  intro X W rv h4 h5 hown _ hlow
  have HR : Hid (RG W rv (M.take at_ ++ ((⟨m.i, m.v, []⟩, .slice none 0 0) :: M.drop at_))) := by
    refine ⟨?_, fun x hx => ?_⟩
    · have hl : (M.take at_ ++ ((⟨m.i, m.v, []⟩, .slice none 0 0) :: M.drop at_)).length = 0 + at_ + 1 + (gn - at_) := by simp; omega
      rw [hl, gcs_app, gcs_cons, ← List.append_assoc]
      exact own_low hown (Nat.zero_le _)
    · rcases List.mem_append.1 hx with hx | hx
      · exact own_new (hrg.eds x (List.mem_of_mem_take hx)) hlow
      · rcases List.mem_cons.1 hx with rfl | hx
        · exact World.ownsRow_nil _ _ _ _
        · exact own_new (hrg.eds x (List.mem_of_mem_drop hx)) hlow
  simp only [puts]
  rw [h4, h5]
  obtain ⟨ro, rn, rc, hrv⟩ := own_any hown
  subst hrv
  have HLo : Hid _ := HB2.out.trans (hlow.mono HB2.out.size)
  clear h4 h5 hown hlow hrg hrow hgn hgo
  generalize X 24 = x24
  generalize X 25 = x25
  generalize X 26 = x26
  generalize X 27 = x27
  generalize X 28 = x28
  generalize X 29 = x29
  generalize X 30 = x30
  generalize X 31 = x31
  generalize X 32 = x32
  generalize X 33 = x33
  generalize X 34 = x34
  generalize X 35 = x35
  generalize X 36 = x36
  generalize X 37 = x37
  generalize X 38 = x38
  generalize X 39 = x39
  simp only [Act.put, List.setIfInBounds_toArray, List.set_cons_succ, List.set_cons_zero]
  go_wp2
  go_ret2
  exact ⟨_, _, rfl, by simp, HR.out, HLo.out⟩
end Go.Proofs.Ythnhmhjcpdomcaa
