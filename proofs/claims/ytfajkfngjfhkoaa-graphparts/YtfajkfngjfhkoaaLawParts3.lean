/- GraphParts: its range over all edges. -/
import Derived.Test.YtfajkfngjfhkoaaLawParts2
import Derived.Test.YtfajkfngjfhkoaaGrEq
import Derived.Maps.OwnIn
namespace Go.Proofs.Ytfajkfngjfhkoaa
open Go.RowKit Go.Shelf
attribute [local go_sem] Oper.semAt_some
theorem all_fn {w : World} {P : Nat → Prop} {ao : Option Addr} (G : List Vx) (cap : Nat) (h : VxAt w P ao G) (hok : ∀ v ∈ G, v.ok) (hl : G.length * 40 ≤ 140737488355328) :
    Calls Try.prog 19 #[.agg #[.slice ao G.length cap]] w fun r w' => ∃ Bs fo c, r = .returned (.func (.func 82) #[] #[.pointer (some ⟨Bs, 0, none⟩)]) ∧ w'.cell? ⟨Bs, 0, none⟩ = some (.slice fo G.length c) ∧ VxAt w' (fun k => w.heap.size ≤ k) fo G ∧ w.heap.size ≤ Bs ∧ Below w.heap.size w w' := by
  have HG := h.new (one_new w (.cells #[.slice ao G.length cap] 24))
  have HH : Hid _ := HG
  have HOk : Hid _ := hok
  clear h HG hok
  go_enter Try.func19, Try.ntmps19
  go_wp2_with (first
    | (go_at_call 21; refine (clone_any G cap HH.out HOk.out hl).mono ?_; rintro r w1 ⟨bo, c, rfl, hV, hb1⟩)
    | (go_at_call 54; refine (edges_fn _ _ _).mono ?_; rintro r w2 ⟨rfl, rfl⟩))
  go_ret
  have hs := hb1.size
  rw [World.size_alloc] at hs
  refine ⟨w1.heap.size, bo, c, rfl, (cl_one (heap_alloc_new _ _)).1, (hV.new (one_new _ _)).mono (fun k _ hk => by rw [World.size_alloc] at hk; omega), by omega, ?_⟩
  exact ((one_new w _).trans (hb1.mono (by rw [World.size_alloc]; omega))).alloc (by omega) _
section
variable {w wr : World} {b0 bn bw be n cap m1 c1 m2 c2 : Nat} {ao o1 o2 : Option Addr} {stop nv : Int} {E : List (Int × Ed)}
theorem PE.want_at (h : PE w wr b0 bn bw be ao n cap stop nv o1 m1 c1 o2 m2 c2 E) {j : Nat} (hj : j < E.length) : ∃ g, o1 = some ⟨g, 0, none⟩ ∧ m1 = E.length ∧ wr.cell? ⟨g, j, none⟩ = some (.int .i64 E[j].1) := by
  rcases h.wrow.2 with ⟨_, h2⟩ | ⟨g, cp, cur, h1, _⟩
  · omega
  · cases h1
    refine ⟨g, rfl, rfl, ?_⟩
    have := h.wrow.cells (g := g) rfl j (.int .i64 E[j].1) (by simp [wcs, hj])
    have hadd : (⟨g, 0, none⟩ : Addr).add j = ⟨g, j, none⟩ := by unfold Addr.add; split <;> simp_all
    rw [hadd] at this
    exact this
theorem PE.ends_at (h : PE w wr b0 bn bw be ao n cap stop nv o1 m1 c1 o2 m2 c2 E) {j : Nat} (hj : j < E.length) : ∃ g, o2 = some ⟨g, 0, none⟩ ∧ m2 = E.length ∧ wr.cell? ⟨g, j * 2, none⟩ = some (.int .i64 E[j].2.t) ∧ wr.cell? ⟨g, j * 2 + 1, none⟩ = some (.int .i64 E[j].2.w) := by
  rcases h.erow.2 with ⟨_, h2⟩ | ⟨g, cp, cur, h1, _⟩
  · omega
  · cases h1
    have hcell : ∀ i (u : Value), (ecs (es2 E))[i]? = some u → wr.cell? ⟨g, i, none⟩ = some u := fun i u hu => by
      have := h.erow.cells (g := g) rfl i u hu
      have hadd : (⟨g, 0, none⟩ : Addr).add i = ⟨g, i, none⟩ := by unfold Addr.add; split <;> simp_all
      rw [hadd] at this
      exact this
    have := ecs_at (es2 E) j (by simpa [es2] using hj)
    have e : (es2 E)[j]'(by simpa [es2] using hj) = E[j].2 := by simp [es2]
    rw [e] at this
    exact ⟨g, rfl, rfl, hcell _ _ this.1, hcell _ _ this.2⟩
theorem PE.setN (h : PE w wr b0 bn bw be ao n cap stop nv o1 m1 c1 o2 m2 c2 E) (x : Int) : PE w (wr.setCell ⟨bn, 0, none⟩ (.int .i64 x)) b0 bn bw be ao n cap stop x o1 m1 c1 o2 m2 c2 E := by
  have f : Fr wr (wr.setCell ⟨bn, 0, none⟩ (.int .i64 x)) (fun k => k = bn) := Fr.setCell (S := fun k => k = bn) wr ⟨bn, 0, none⟩ _ rfl
  have h1 := h.h1
  have h2 := h.h2
  have h3 := h.h3
  have h4 := h.pb.lo
  exact ⟨⟨(f.block _ (lt_of_block h.pb.gb) (by omega)).trans h.pb.gb, (f.block _ (lt_of_block h.pb.sb) (by omega)).trans h.pb.sb, (f.block _ (lt_of_block h.pb.rb) (by omega)).trans h.pb.rb, h.pb.low.trans (f.below h.pb.low.size (fun k hk => by omega)), h4⟩,
    cl_set1 h.nb _, (f.block _ (lt_of_block h.wb) (by omega)).trans h.wb, (f.block _ (lt_of_block h.eb) (by omega)).trans h.eb, own_kept h.wrow f (fun k hk e => own_ne h.wrow h.nb (by decide) (e ▸ hk)), own_kept h.erow f (fun k hk e => own_ne h.erow h.nb (by decide) (e ▸ hk)), h1, h2, h3⟩
theorem PE.keep {B : Nat} {w' : World} {T : Nat → Prop} (h : PE w wr b0 bn bw be ao n cap stop nv o1 m1 c1 o2 m2 c2 E) (f : Fr wr w' (fun k => B ≤ k ∧ ¬ T k)) (hB : be < B) (hw : w.heap.size ≤ B) (hr1 : ∀ k, (Value.slice o1 m1 c1).ownBlock = some k → k < B) (hr2 : ∀ k, (Value.slice o2 m2 c2).ownBlock = some k → k < B) : PE w w' b0 bn bw be ao n cap stop nv o1 m1 c1 o2 m2 c2 E := by
  have h1 := h.h1
  have h2 := h.h2
  have h3 := h.h3
  exact h.fr f (fun k hk => ⟨by omega, by omega, by omega, by omega, by omega, by omega, by omega, fun e => by have := hr1 k e; omega, fun e => by have := hr2 k e; omega⟩)
end
set_option linter.unusedSimpArgs false in
set_option maxRecDepth 100000 in
set_option maxHeartbeats 4000000 in
theorem parts_range {w wr : World} {P : Nat → Prop} {ao fo o1 o2 : Option Addr} (G : List Vx) (cap fc b0 bn bw be Bs B m1 c1 m2 c2 : Nat) (stop : Int) {x0 x1 x2 x4 x7 x8 x9 x10 x11 x12 x13 x14 x18 x19 x20 x21 x22 x23 x24 x25 x26 x27 x28 x29 x30 x31 x32 x33 x34 x35 x36 x37 x38 x39 x40 x41 x42 x43 x44 x45 x46 x47 x48 x49 x50 x51 x52 x53 x54 x55 x56 x57 x58 x59 x60 x61 x62 x63 x64 x65 x66 x67 x68 x69 x70 x71 x72 x73 x74 x75 x76 x77 x78 x79 x80 x81 x82 x83 x84 x85 x86 x87 x88 x89 x90 x91 x92 x93 x94 x95 x96 x97 x98 x99 x100 x101 x102 x103 x104 x105 x106 x107 x108 x109 x110 x111 x112 x113 x114 x115 x116 x117 x118 x119 x120 x121 x122 x123 x124 x125 x126 x127 x128 x129 x130 x131 x132 x133 x134 x135 x136 x137 x138 x139 x140 x142 x143 x144 x145 x146 x147 x148 x149 x150 x151 x152 x153 x154 x155 x156 x157 x158 x159 x160 x161 x162 x163 x164 x165 x166 x167 x168 x169 x170 x171 x172 x173 x174 x175 x176 x177 x178 x179 x180 x181 x182 x183 x184 x185 x186 x187 : Value} {K : Act → World → Prop} {Q' : Exit → Act → World → Prop}
    (HOk : Hid (∀ v ∈ G, v.ok)) (hl : G.length ≤ 256) (hE : (evs G).length ≤ 2048) (hX : PE w wr b0 bn bw be ao G.length cap stop 0 o1 m1 c1 o2 m2 c2 (evs G)) (hBs : wr.cell? ⟨Bs, 0, none⟩ = some (.slice fo G.length fc)) (hV : VxAt wr P fo G) (hP : ∀ k, k < wr.heap.size → P k → B ≤ k) (hB : be < B)
    (HC : ∀ (wx : World) (D : Nat) (nv : Int), PE w wx b0 bn bw be ao G.length cap stop nv o1 m1 c1 o2 m2 c2 (evs G) → (nv = (evs G).length ∨ nv = stop) → wr.heap.size ≤ D → wx.heap[D]? = some (.deferred (some [])) → K ⟨(List.toArray (x0 :: x1 :: x2 :: (.pointer (some ⟨b0, 0, none⟩)) :: x4 :: (.pointer (some ⟨b0 + 1, 0, none⟩)) :: (.pointer (some ⟨b0 + 1 + 1, 0, none⟩)) :: x7 :: x8 :: x9 :: x10 :: x11 :: x12 :: x13 :: x14 :: (.pointer (some ⟨bn, 0, none⟩)) :: (.pointer (some ⟨bw, 0, none⟩)) :: (.pointer (some ⟨be, 0, none⟩)) :: x18 :: x19 :: x20 :: x21 :: x22 :: x23 :: x24 :: x25 :: x26 :: x27 :: x28 :: x29 :: x30 :: x31 :: x32 :: x33 :: x34 :: x35 :: x36 :: x37 :: x38 :: x39 :: x40 :: x41 :: x42 :: x43 :: x44 :: x45 :: x46 :: x47 :: x48 :: x49 :: x50 :: x51 :: x52 :: x53 :: x54 :: x55 :: x56 :: x57 :: x58 :: x59 :: x60 :: x61 :: x62 :: x63 :: x64 :: x65 :: x66 :: x67 :: x68 :: x69 :: x70 :: x71 :: x72 :: x73 :: x74 :: x75 :: x76 :: x77 :: x78 :: x79 :: x80 :: x81 :: x82 :: x83 :: x84 :: x85 :: x86 :: x87 :: x88 :: x89 :: x90 :: x91 :: x92 :: x93 :: x94 :: x95 :: x96 :: x97 :: x98 :: x99 :: x100 :: x101 :: x102 :: x103 :: x104 :: x105 :: x106 :: x107 :: x108 :: x109 :: x110 :: x111 :: x112 :: x113 :: x114 :: x115 :: x116 :: x117 :: x118 :: x119 :: x120 :: x121 :: x122 :: x123 :: x124 :: x125 :: x126 :: x127 :: x128 :: x129 :: x130 :: x131 :: x132 :: x133 :: x134 :: x135 :: x136 :: x137 :: x138 :: x139 :: x140 :: (.func (.func 82) #[] #[.pointer (some ⟨Bs, 0, none⟩)]) :: x142 :: x143 :: x144 :: x145 :: x146 :: x147 :: x148 :: x149 :: x150 :: x151 :: x152 :: x153 :: x154 :: x155 :: x156 :: x157 :: x158 :: x159 :: x160 :: x161 :: x162 :: x163 :: x164 :: x165 :: x166 :: x167 :: x168 :: x169 :: x170 :: x171 :: x172 :: x173 :: x174 :: x175 :: x176 :: x177 :: x178 :: x179 :: x180 :: x181 :: x182 :: x183 :: x184 :: x185 :: x186 :: x187 :: [])), [{ target := .collected D, args := #[] }]⟩ wx) :
    Code.wp Try.prog ((Try.f4.body.bind (inBlk 8)).getD .skip) (Exit.inBlock 8 (Exit.then K Q')) ⟨(List.toArray (x0 :: x1 :: x2 :: (.pointer (some ⟨b0, 0, none⟩)) :: x4 :: (.pointer (some ⟨b0 + 1, 0, none⟩)) :: (.pointer (some ⟨b0 + 1 + 1, 0, none⟩)) :: x7 :: x8 :: x9 :: x10 :: x11 :: x12 :: x13 :: x14 :: (.pointer (some ⟨bn, 0, none⟩)) :: (.pointer (some ⟨bw, 0, none⟩)) :: (.pointer (some ⟨be, 0, none⟩)) :: x18 :: x19 :: x20 :: x21 :: x22 :: x23 :: x24 :: x25 :: x26 :: x27 :: x28 :: x29 :: x30 :: x31 :: x32 :: x33 :: x34 :: x35 :: x36 :: x37 :: x38 :: x39 :: x40 :: x41 :: x42 :: x43 :: x44 :: x45 :: x46 :: x47 :: x48 :: x49 :: x50 :: x51 :: x52 :: x53 :: x54 :: x55 :: x56 :: x57 :: x58 :: x59 :: x60 :: x61 :: x62 :: x63 :: x64 :: x65 :: x66 :: x67 :: x68 :: x69 :: x70 :: x71 :: x72 :: x73 :: x74 :: x75 :: x76 :: x77 :: x78 :: x79 :: x80 :: x81 :: x82 :: x83 :: x84 :: x85 :: x86 :: x87 :: x88 :: x89 :: x90 :: x91 :: x92 :: x93 :: x94 :: x95 :: x96 :: x97 :: x98 :: x99 :: x100 :: x101 :: x102 :: x103 :: x104 :: x105 :: x106 :: x107 :: x108 :: x109 :: x110 :: x111 :: x112 :: x113 :: x114 :: x115 :: x116 :: x117 :: x118 :: x119 :: x120 :: x121 :: x122 :: x123 :: x124 :: x125 :: x126 :: x127 :: x128 :: x129 :: x130 :: x131 :: x132 :: x133 :: x134 :: x135 :: x136 :: x137 :: x138 :: x139 :: x140 :: (.func (.func 82) #[] #[.pointer (some ⟨Bs, 0, none⟩)]) :: x142 :: x143 :: x144 :: x145 :: x146 :: x147 :: x148 :: x149 :: x150 :: x151 :: x152 :: x153 :: x154 :: x155 :: x156 :: x157 :: x158 :: x159 :: x160 :: x161 :: x162 :: x163 :: x164 :: x165 :: x166 :: x167 :: x168 :: x169 :: x170 :: x171 :: x172 :: x173 :: x174 :: x175 :: x176 :: x177 :: x178 :: x179 :: x180 :: x181 :: x182 :: x183 :: x184 :: x185 :: x186 :: x187 :: [])), []⟩ wr := by
  conv => arg 2; whnf
  have HH : Hid _ := HC
  have hr1 : ∀ k, (Value.slice o1 m1 c1).ownBlock = some k → k < wr.heap.size := fun k hk => (hX.wrow.lt k hk).2
  have hr2 : ∀ k, (Value.slice o2 m2 c2).ownBlock = some k → k < wr.heap.size := fun k hk => (hX.erow.lt k hk).2
  have hbe := lt_of_block hX.eb
  have hsz := hX.pb.low.size
  have hz1 := hX.h1
  have hz2 := hX.h2
  have hz3 := hX.h3
  clear HC
  refine (wpIn_wide (n := 9)).1 ?_
  refine wpIn_rangeT (lb := #[.pointer (some ⟨Bs, 0, none⟩)]) (gf := 82) rfl (enters_of Try.func82 (by kernel_rfl) rfl)
    (edges_T Bs fo fc G (by omega) HOk.out wr (fun k => B ≤ k ∧ k < wr.heap.size) P (fun k hk => hk.2) hBs hV (fun k hk hp => ⟨hP k hk hp, hk⟩)) (Below.refl _ _) (fun _ => rfl)
    (fun pre T W => PE w W b0 bn bw be ao G.length cap stop pre.length o1 m1 c1 o2 m2 c2 (evs G) ∧ T = (fun k => k = bn)) (fun c pre T W => c = .exit 8 ∧ (pre.length : Int) = stop ∧ PE w W b0 bn bw be ao G.length cap stop pre.length o1 m1 c1 o2 m2 c2 (evs G) ∧ T = (fun k => k = bn))
    (fun pre T W W' h f => ⟨h.1.keep f hbe hsz hr1 hr2, h.2⟩) (fun c pre T W W' h f => ⟨h.1, h.2.1, h.2.2.1.keep f hbe hsz hr1 hr2, h.2.2.2⟩) (fun k => k = bn) (fun k hk => ⟨by omega, by omega⟩) ⟨hX, rfl⟩ ?round ?done ?stop
  case round =>
    rintro m l pre T x W hl0 ⟨r, hr⟩ hTl ⟨hI, rfl⟩ _ hpre
    have hlt := lt_of_block hr
    have hpl : pre.length < (evs G).length := by
      have := hpre.length_le
      simp at this
      omega
    have hx : (evs G)[pre.length] = x := by
      have := hpre.getElem (i := pre.length) (by simp)
      simpa using this.symm
    dsimp only [encE]
    gi_wp2
    refine ⟨Fr.alloc _ _ _, fun W2 f2 => ?_⟩
    have hs2 : W.heap.size + 1 ≤ W2.heap.size := by have := f2.size; rw [World.size_alloc] at this; exact this
    have e0 := (f2.block W.heap.size (by rw [World.size_alloc]; omega) (by omega)).trans (heap_alloc_new _ _)
    have hI2 : PE w W2 b0 bn bw be ao G.length cap stop pre.length o1 m1 c1 o2 m2 c2 (evs G) := (hI.new (one_new _ _)).keep (B := wr.heap.size) (T := fun _ => False) (f2.mono (fun k _ e => ⟨by omega, fun h => h⟩)) hbe hsz hr1 hr2
    obtain ⟨g1, rfl, rfl, hw1⟩ := hI2.want_at hpl
    obtain ⟨g2, rfl, rfl, hw2, hw3⟩ := hI2.ends_at hpl
    rw [hx] at hw1 hw2 hw3
    obtain ⟨q0, q1⟩ := box2 e0
    obtain ⟨n0, n1⟩ := cl_one hI2.nb
    obtain ⟨a0, a1⟩ := cl_one hI2.wb
    obtain ⟨a2, a3⟩ := cl_one hI2.eb
    obtain ⟨a4, a5⟩ := cl_one hI2.pb.sb
    have HI2 : Hid _ := hI2
    have hq1 := fun w x' y' => run_guard60 w x' y' x.2.t x.2.w x.2.t x.2.w
    have hq2 := fun w => run_neq60 w x.2.t x.2.w x.2.t x.2.w
    have hmix : Try.prog.follows .mixedOrders = true := by kernel_rfl
    have hcmp : ¬ (((evs G).length : Int) ≤ (pre.length : Int)) := by omega
    clear hI hI2 e0 f2 hX hV hBs
    have hpl2 : pre.length ≤ 2048 := by omega
    obtain ⟨q, hqq⟩ : ∃ q, W.heap.size = q := ⟨_, rfl⟩
    rw [hqq] at q0 q1 ⊢
    have hS0 : W2.drew.cell? ⟨bn, 0, none⟩ = some (.int .i64 pre.length) ∧ W2.drew.cell? ⟨bw, 0, none⟩ = some (.slice (some ⟨g1, 0, none⟩) (evs G).length c1) ∧ W2.drew.cell? ⟨be, 0, none⟩ = some (.slice (some ⟨g2, 0, none⟩) (evs G).length c2) ∧ W2.drew.cell? ⟨g1, pre.length, none⟩ = some (.int .i64 x.1) ∧ W2.drew.cell? ⟨g2, pre.length * 2, none⟩ = some (.int .i64 x.2.t) ∧ W2.drew.cell? ⟨g2, pre.length * 2 + 1, none⟩ = some (.int .i64 x.2.w) ∧ W2.drew.cell? ⟨q, 0, none⟩ = some (.int .i64 x.2.t) ∧ W2.drew.cell? ⟨q, 1, none⟩ = some (.int .i64 x.2.w) := ⟨n0, a0, a2, hw1, hw2, hw3, q0, q1⟩
    gi_wp2
    refine wpIn_region_L [] (fun w' => w'.cell? ⟨bn, 0, none⟩ = some (.int .i64 pre.length) ∧ w'.cell? ⟨bw, 0, none⟩ = some (.slice (some ⟨g1, 0, none⟩) (evs G).length c1) ∧ w'.cell? ⟨be, 0, none⟩ = some (.slice (some ⟨g2, 0, none⟩) (evs G).length c2) ∧ w'.cell? ⟨g1, pre.length, none⟩ = some (.int .i64 x.1) ∧ w'.cell? ⟨g2, pre.length * 2, none⟩ = some (.int .i64 x.2.t) ∧ w'.cell? ⟨g2, pre.length * 2 + 1, none⟩ = some (.int .i64 x.2.w) ∧ w'.cell? ⟨q, 0, none⟩ = some (.int .i64 x.2.t) ∧ w'.cell? ⟨q, 1, none⟩ = some (.int .i64 x.2.w)) (by kernel_rfl) (by kernel_rfl) (fun ⟨_, _, h⟩ => h) ?_
    refine wpAnyL_take (i := 0) 144 (v := .int .i64 pre.length) rfl rfl (by kernel_rfl) (by kernel_rfl) (by kernel_rfl) (by kernel_rfl) (by kernel_rfl) (by kernel_rfl) (fun _ _ _ h => h) hS0 (by rfl) (by intro w' hSw; (try dsimp only at hSw); go_simp <;> with_reducible rfl) ?_
    simp only [Act.put, List.setIfInBounds_toArray, List.set_cons_zero, List.set_cons_succ]
    refine wpAnyL_take (i := 1) 145 (v := .slice (some ⟨g1, 0, none⟩) (evs G).length c1) rfl rfl (by kernel_rfl) (by kernel_rfl) (by kernel_rfl) (by kernel_rfl) (by kernel_rfl) (by kernel_rfl) (fun _ _ _ h => h) hS0 (by rfl) (by intro w' hSw; (try dsimp only at hSw); go_simp <;> with_reducible rfl) ?_
    simp only [Act.put, List.setIfInBounds_toArray, List.set_cons_zero, List.set_cons_succ]
    refine wpAnyL_take (i := 2) 146 (v := .int .i64 (evs G).length) rfl rfl (by kernel_rfl) (by kernel_rfl) (by kernel_rfl) (by kernel_rfl) (by kernel_rfl) (by kernel_rfl) (fun _ _ _ h => h) hS0 (by rfl) (by intro w' hSw; (try dsimp only at hSw); go_simp <;> with_reducible rfl) ?_
    simp only [Act.put, List.setIfInBounds_toArray, List.set_cons_zero, List.set_cons_succ]
    refine wpAnyL_take (i := 3) 147 (v := .bool false) rfl rfl (by kernel_rfl) (by kernel_rfl) (by kernel_rfl) (by kernel_rfl) (by kernel_rfl) (by kernel_rfl) (fun _ _ _ h => h) hS0 (by rfl) (by intro w' hSw; (try dsimp only at hSw); go_simp <;> with_reducible rfl) ?_
    simp only [Act.put, List.setIfInBounds_toArray, List.set_cons_zero, List.set_cons_succ]
    refine wpAnyL_take (i := 4) 148 (v := .bool false) rfl rfl (by kernel_rfl) (by kernel_rfl) (by kernel_rfl) (by kernel_rfl) (by kernel_rfl) (by kernel_rfl) (fun _ _ _ h => h) hS0 (by rfl) (by intro w' hSw; (try dsimp only at hSw); go_simp <;> with_reducible rfl) ?_
    simp only [Act.put, List.setIfInBounds_toArray, List.set_cons_zero, List.set_cons_succ]
    refine wpAnyL_take (i := 5) 149 (v := .int .i64 x.1) rfl rfl (by kernel_rfl) (by kernel_rfl) (by kernel_rfl) (by kernel_rfl) (by kernel_rfl) (by kernel_rfl) (fun _ _ _ h => h) hS0 (by rfl) (by intro w' hSw; (try dsimp only at hSw); go_simp <;> with_reducible rfl) ?_
    simp only [Act.put, List.setIfInBounds_toArray, List.set_cons_zero, List.set_cons_succ]
    refine wpAnyL_take (i := 6) 150 (v := .slice (some ⟨g1, 0, none⟩) (evs G).length c1) rfl rfl (by kernel_rfl) (by kernel_rfl) (by kernel_rfl) (by kernel_rfl) (by kernel_rfl) (by kernel_rfl) (fun _ _ _ h => h) hS0 (by rfl) (by intro w' hSw; (try dsimp only at hSw); go_simp <;> with_reducible rfl) ?_
    simp only [Act.put, List.setIfInBounds_toArray, List.set_cons_zero, List.set_cons_succ]
    refine wpAnyL_take (i := 7) 151 (v := .int .i64 pre.length) rfl rfl (by kernel_rfl) (by kernel_rfl) (by kernel_rfl) (by kernel_rfl) (by kernel_rfl) (by kernel_rfl) (fun _ _ _ h => h) hS0 (by rfl) (by intro w' hSw; (try dsimp only at hSw); go_simp <;> with_reducible rfl) ?_
    simp only [Act.put, List.setIfInBounds_toArray, List.set_cons_zero, List.set_cons_succ]
    refine wpAnyL_take (i := 8) 152 (v := .pointer (some ⟨g1, pre.length, none⟩)) rfl rfl (by kernel_rfl) (by kernel_rfl) (by kernel_rfl) (by kernel_rfl) (by kernel_rfl) (by kernel_rfl) (fun _ _ _ h => h) hS0 (by rfl) (by intro w' hSw; (try dsimp only at hSw); go_simp <;> with_reducible rfl) ?_
    simp only [Act.put, List.setIfInBounds_toArray, List.set_cons_zero, List.set_cons_succ]
    refine wpAnyL_take (i := 9) 153 (v := .int .i64 x.1) rfl rfl (by kernel_rfl) (by kernel_rfl) (by kernel_rfl) (by kernel_rfl) (by kernel_rfl) (by kernel_rfl) (fun _ _ _ h => h) hS0 (by rfl) (by intro w' hSw; (try dsimp only at hSw); go_simp <;> with_reducible rfl) ?_
    simp only [Act.put, List.setIfInBounds_toArray, List.set_cons_zero, List.set_cons_succ]
    refine wpAnyL_take (i := 10) 154 (v := .bool false) rfl rfl (by kernel_rfl) (by kernel_rfl) (by kernel_rfl) (by kernel_rfl) (by kernel_rfl) (by kernel_rfl) (fun _ _ _ h => h) hS0 (by rfl) (by intro w' hSw; (try dsimp only at hSw); go_simp <;> with_reducible rfl) ?_
    simp only [Act.put, List.setIfInBounds_toArray, List.set_cons_zero, List.set_cons_succ]
    refine wpAnyL_take (i := 11) 155 (v := .bool false) rfl rfl (by kernel_rfl) (by kernel_rfl) (by kernel_rfl) (by kernel_rfl) (by kernel_rfl) (by kernel_rfl) (fun _ _ _ h => h) hS0 (by rfl) (by intro w' hSw; (try dsimp only at hSw); go_simp <;> with_reducible rfl) ?_
    simp only [Act.put, List.setIfInBounds_toArray, List.set_cons_zero, List.set_cons_succ]
    refine wpAnyL_take (i := 12) 156 (v := .bool false) rfl rfl (by kernel_rfl) (by kernel_rfl) (by kernel_rfl) (by kernel_rfl) (by kernel_rfl) (by kernel_rfl) (fun _ _ _ h => h) hS0 (by rfl) (by intro w' hSw; (try dsimp only at hSw); go_simp <;> with_reducible rfl) ?_
    simp only [Act.put, List.setIfInBounds_toArray, List.set_cons_zero, List.set_cons_succ]
    refine wpAnyL_take (i := 13) 157 (v := .agg #[.int .i64 x.2.t, .int .i64 x.2.w]) rfl rfl (by kernel_rfl) (by kernel_rfl) (by kernel_rfl) (by kernel_rfl) (by kernel_rfl) (by kernel_rfl) (fun _ _ _ h => h) hS0 (by rfl) (by intro w' hSw; (try dsimp only at hSw); go_simp <;> with_reducible rfl) ?_
    simp only [Act.put, List.setIfInBounds_toArray, List.set_cons_zero, List.set_cons_succ]
    refine wpAnyL_take (i := 14) 158 (v := .slice (some ⟨g2, 0, none⟩) (evs G).length c2) rfl rfl (by kernel_rfl) (by kernel_rfl) (by kernel_rfl) (by kernel_rfl) (by kernel_rfl) (by kernel_rfl) (fun _ _ _ h => h) hS0 (by rfl) (by intro w' hSw; (try dsimp only at hSw); go_simp <;> with_reducible rfl) ?_
    simp only [Act.put, List.setIfInBounds_toArray, List.set_cons_zero, List.set_cons_succ]
    refine wpAnyL_take (i := 15) 159 (v := .int .i64 pre.length) rfl rfl (by kernel_rfl) (by kernel_rfl) (by kernel_rfl) (by kernel_rfl) (by kernel_rfl) (by kernel_rfl) (fun _ _ _ h => h) hS0 (by rfl) (by intro w' hSw; (try dsimp only at hSw); go_simp <;> with_reducible rfl) ?_
    simp only [Act.put, List.setIfInBounds_toArray, List.set_cons_zero, List.set_cons_succ]
    refine wpAnyL_take (i := 16) 160 (v := .pointer (some ⟨g2, pre.length * 2, none⟩)) rfl rfl (by kernel_rfl) (by kernel_rfl) (by kernel_rfl) (by kernel_rfl) (by kernel_rfl) (by kernel_rfl) (fun _ _ _ h => h) hS0 (by rfl) (by intro w' hSw; (try dsimp only at hSw); go_simp <;> with_reducible rfl) ?_
    simp only [Act.put, List.setIfInBounds_toArray, List.set_cons_zero, List.set_cons_succ]
    refine wpAnyL_take (i := 17) 161 (v := .agg #[.int .i64 x.2.t, .int .i64 x.2.w]) rfl rfl (by kernel_rfl) (by kernel_rfl) (by kernel_rfl) (by kernel_rfl) (by kernel_rfl) (by kernel_rfl) (fun _ _ _ h => h) hS0 (by rfl) (by intro w' hSw; (try dsimp only at hSw); go_simp <;> with_reducible rfl) ?_
    simp only [Act.put, List.setIfInBounds_toArray, List.set_cons_zero, List.set_cons_succ]
    refine wpAnyL_take (i := 18) 162 (v := .bool false) rfl rfl (by kernel_rfl) (by kernel_rfl) (by kernel_rfl) (by kernel_rfl) (by kernel_rfl) (by kernel_rfl) (fun _ _ _ h => h) hS0 (by rfl) (by intro w' hSw; (try dsimp only at hSw); go_simp <;> with_reducible rfl) ?_
    simp only [Act.put, List.setIfInBounds_toArray, List.set_cons_zero, List.set_cons_succ]
    refine wpAnyL_take (i := 19) 163 (v := .bool false) rfl rfl (by kernel_rfl) (by kernel_rfl) (by kernel_rfl) (by kernel_rfl) (by kernel_rfl) (by kernel_rfl) (fun _ _ _ h => h) hS0 (by rfl) (by intro w' hSw; (try dsimp only at hSw); go_simp <;> with_reducible rfl) ?_
    simp only [Act.put, List.setIfInBounds_toArray, List.set_cons_zero, List.set_cons_succ]
    refine wpAnyL_done (by kernel_rfl) ?_ _
    have c6 : ∀ v, (W2.setCell ⟨bn, 0, none⟩ v).cell? ⟨b0 + 1, 0, none⟩ = some (.int .i64 stop) := fun v => fr_cell (Fr.setCell (S := fun k => k = bn) W2 ⟨bn, 0, none⟩ v rfl) (by omega) a4
    have hI3 : PE w (W2.drew.setCell ⟨bn, 0, none⟩ (.int .i64 (pre.length + 1))) b0 bn bw be ao G.length cap stop ((pre ++ [x]).length : Nat) (some ⟨g1, 0, none⟩) (evs G).length c1 (some ⟨g2, 0, none⟩) (evs G).length c2 (evs G) := by
      have := (PE.new HI2.out (Below.refl _ W2).drew).setN ((pre.length : Int) + 1)
      rw [show (((pre ++ [x]).length : Nat) : Int) = (pre.length : Int) + 1 by simp]
      exact this
    have hF3 : Fr W2 (W2.drew.setCell ⟨bn, 0, none⟩ (.int .i64 (pre.length + 1))) (fun k => k = bn) := (Fr.drew W2 _).trans (Fr.setCell (S := fun k => k = bn) W2.drew ⟨bn, 0, none⟩ _ rfl) (fun _ _ h => h)
    have HI3 : Hid _ := hI3
    have HF3 : Hid _ := hF3
    clear hI3 hF3 hS0 HI2
    by_cases hst : (pre.length : Int) + 1 = stop
    · rw [hst] at HI3 HF3
      gi_wp2
      exact ⟨_, HF3.out, Grows.refl _ _ _, rfl, by rw [← hst]; simp, HI3.out, rfl⟩
    · have hb : ((pre.length : Int) + 1 == stop) = false := by simpa using hst
      gi_wp2
      exact ⟨_, HF3.out, Grows.refl _ _ _, HI3.out, rfl⟩
  case done =>
    rintro D xs T W hD rfl ⟨hI, rfl⟩ hTD hK
    exact HH.out W D _ hI (.inl rfl) hD hK
  case stop =>
    rintro D c pre T W hD hSp ⟨rfl, hst, hI, rfl⟩ hTD hK
    refine wpIn_wide.2 ?_
    have := HH.out W D _ hI (.inr hst) hD hK
    go_wp2
    exact this
end Go.Proofs.Ytfajkfngjfhkoaa
