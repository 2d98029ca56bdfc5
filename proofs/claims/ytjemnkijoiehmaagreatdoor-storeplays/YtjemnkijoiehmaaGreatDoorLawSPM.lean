import Derived.Test.YtjemnkijoiehmaaGreatDoorStAwM
import Derived.Test.YtjemnkijoiehmaaGreatDoorStAwM
/- StorePlays: the walk. -/
namespace Go.Proofs.YtjemnkijoiehmaaGreatDoor
open Go.RowKit Go.Maps
attribute [local go_sem] Oper.semAt_some
set_option linter.unusedSimpArgs false in
set_option maxRecDepth 100000 in
set_option maxHeartbeats 8000000 in
theorem plays_neg {w : World} {ao : Option Addr} {n0 cap : Nat} {bud : Int} (hneg : bud < 0) :
    Calls Tryz.prog 3 #[.int .i64 bud, .slice ao n0 cap] w fun e w' => e = .returned (.bool true) ∧ Below w.heap.size w w' := by
  have hN := new_any w
  go_enter Tryz.func3, Tryz.ntmps3
  go_upto_region 2 with (first
    | (go_at_call 5; refine Calls.mono hN ?_; rintro r w1 ⟨rfl, e1, e2⟩; have HB1 : Hid (Below w.heap.size w w1) := e2; have hNw := snew_bad (w := w1) (p := w.heap.size) hneg; clear e1 e2 hN)
    | (go_at_call 4; refine Calls.mono hNw ?_; rintro r w2 ⟨rfl, e1⟩; have HB2 : Hid (Below w.heap.size w w2) := (by rw [e1]; exact HB1.out); clear e1 hNw))
  have hAw := awake19 w2
  go_wp2_with (go_at_call 6; refine Calls.mono hAw ?_; rintro r w3 ⟨rfl, e1⟩; have HB3 : Hid (Below w2.heap.size w2 w3) := e1; clear e1 hAw)
  go_ret
  exact ⟨rfl, HB2.out.trans (HB3.out.mono HB2.out.size)⟩
/-- What the law holds behind k acts. -/
structure PlE (w : World) (qs ps bm : Nat) (bud : Int) (k : Nat) (wr : World) (K : St) : Prop where
  pl : ∃ Xm b v, PlI w qs ps bm wr Xm b v K (256 * k) K.f K.near
  bud : K.bud = bud
  sp : K.sp ≤ 16 * k
set_option linter.unusedSimpArgs false in
set_option maxRecDepth 100000 in
set_option maxHeartbeats 16000000 in
theorem plays_pos {w : World} {ao : Option Addr} {cap : Nat} {Y : List Sct} {bud : Int} (hact : 0 < Y.length → ∃ b off, ao = some ⟨b, off, none⟩ ∧ SctS w b off Y) (h0 : 0 ≤ bud) (hb : bud ≤ 9223372036854775807) :
    Calls Tryz.prog 3 #[.int .i64 bud, .slice ao Y.length cap] w fun e w' => e = .returned (.bool true) ∧ Below w.heap.size w w' := by
  have hN := new_any w
  have HA : Hid (0 < Y.length → ∃ b off, ao = some ⟨b, off, none⟩ ∧ SctS w b off Y) := hact
  obtain ⟨n0, hn0⟩ : ∃ n0, Y.length = n0 := ⟨_, rfl⟩
  have HNn : Hid (Y.length = n0) := hn0
  rw [hn0]
  clear hact hn0
  go_enter Tryz.func3, Tryz.ntmps3
  go_upto_region 2 with (first
    | (go_at_call 5; refine Calls.mono hN ?_; rintro r w1 ⟨rfl, e1, e2⟩; have HB1 : Hid (Below w.heap.size w w1) := e2; have hNw := snew_ok (Xm := fun _ => False) (w := w1) (B := w.heap.size) (p := w.heap.size) (bud := bud) ⟨_, _, _, e1⟩ e2.size h0 hb; clear e1 e2 hN)
    | (go_at_call 4; refine Calls.mono hNw ?_; rintro r w2 ⟨rfl, e1, e2⟩; have HA2 : Hid (SA (fun _ => False) w2 w.heap.size w1.heap.size w.heap.size (St.new bud) 0) := e1; have HB2 : Hid (Below w1.heap.size w1 w2) := e2; clear e1 e2 hNw))
  have HS2 : Hid (Below w.heap.size w w2) := HB1.out.trans (HB2.out.mono HB1.out.size)
  have hAw := awake19 w2
  go_upto_region 6 with (go_at_call 6; refine Calls.mono hAw ?_; rintro r w3 ⟨rfl, e1⟩; have HB3 : Hid (Below w2.heap.size w2 w3) := e1; clear e1 hAw)
  have HA3 : Hid (SA (fun _ => False) w3 w.heap.size w1.heap.size w.heap.size (St.new bud) 0) := HA2.out.new HB3.out
  have HS3 : Hid (Below w.heap.size w w3) := HS2.out.trans (HB3.out.mono HS2.out.size)
  clear HA2 HB1 HB2 HS2 HB3
  have hmm := @run_makeMap Tryz.prog
  go_upto_region 7 with (fail)
  clear hmm
  generalize hW : World.alloc _ _ = W4
  have hP0 : ∃ Xm : Nat → Prop, PlI w w1.heap.size w.heap.size (w3.heap.size + 1) W4 Xm w3.heap.size (.slice none 0 0) (St.new bud) 0 noneO [] := by
    have hb1 := gone_new w3 (.map #[] 0)
    have hb2 := gone_new (w3.alloc (.map #[] 0)) (.cells #[.map (some w3.heap.size), .slice none 0 0] 33)
    have hx := heap_alloc_new (w3.alloc (.map #[] 0)) (.cells #[.map (some w3.heap.size), .slice none 0 0] 33)
    rw [World.size_alloc] at hx
    have hb12 := hb1.trans (hb2.mono hb1.size)
    have hm : IMp lvS _ w3.heap.size noneO := (IMp.made lvS w3).new hb2
    have hsz : ((w3.alloc (.map #[] 0)).alloc (.cells #[.map (some w3.heap.size), .slice none 0 0] 33)).heap.size = w3.heap.size + 1 + 1 := by simp
    rw [hW] at hb12 hx hm hsz
    have hs3 := HS3.out.size
    exact ⟨_, HA3.out.grow (Fr.ofBelow hb12 (fun _ => False)) (fun _ f => f.elim), .inr ⟨Nat.le_refl _, by omega⟩, hx, hm, NrO.nil _ _, HS3.out.trans (hb12.mono hs3), hs3, by omega⟩
  clear hW
  obtain ⟨Xm0, hP0⟩ := hP0
  have HE0 : Hid (PlE w w1.heap.size w.heap.size (w3.heap.size + 1) bud 0 W4 (St.new bud)) := ⟨⟨Xm0, _, _, hP0⟩, rfl, Nat.zero_le _⟩
  clear hP0 HA3 HS3
  generalize w1.heap.size = qs at HE0 ⊢
  generalize w3.heap.size + 1 = bm at HE0 ⊢
  obtain ⟨B, hB⟩ : ∃ B, w.heap.size = B := ⟨_, rfl⟩
  have HBw : Hid (w.heap.size = B) := hB
  rw [hB] at HE0 ⊢
  clear hB
  go_wp2
  go_loopw [8, 9] (fun s i wr => ∃ (k : Nat) (K : St), k ≤ n0 ∧ k ≤ 80 ∧ i = .int .i64 k ∧ s = .int .i64 K.sp ∧ PlE w qs B bm bud k wr K) (fun _ i _ => 80 - (intOf i).toNat)
  case atStart => exact ⟨0, _, Nat.zero_le _, Nat.zero_le _, rfl, rfl, HE0.out⟩
  case round =>
    obtain ⟨k, K, hk, hk80, rfl, rfl, hE⟩ := hrel
    have HE : Hid (PlE w qs B bm bud k wr K) := hE
    clear hE
    by_cases hlt : k < n0
    · by_cases h80 : k < 80
      · have hkY : k < Y.length := by have := HNn.out; omega
        obtain ⟨b0, off, rfl, hcs⟩ := HA.out (by omega)
        obtain ⟨Xm, b, v, hP⟩ := HE.out.pl
        have hrow : ∃ y : Sct, wr.cell? ⟨b0, off + k * 3, none⟩ = some (.int .i64 y.k) ∧ wr.cell? ⟨b0, off + k * 3 + 1, none⟩ = some (.int .i64 y.n) ∧ wr.cell? ⟨b0, off + k * 3 + 2, none⟩ = some (.string (str y.s)) ∧ I6 y.n ∧ y.s.length ≤ 140737488351232 := by
          obtain ⟨x0, x1, x2, hin, hsl⟩ := hcs k hkY
          have hbB : b0 < w.heap.size := World.block_lt_of_cell? w _ x0
          exact ⟨Y[k]'hkY, (hP.bel.cell (p := ⟨b0, off + k * 3, none⟩) hbB).trans x0, (hP.bel.cell (p := ⟨b0, off + k * 3 + 1, none⟩) hbB).trans x1, (hP.bel.cell (p := ⟨b0, off + k * 3 + 2, none⟩) hbB).trans x2, hin, hsl⟩
        obtain ⟨⟨yk, yn, ys⟩, x0, x1, x2, hin, hsl⟩ := hrow
        simp only at x0 x1 x2 hin hsl
        clear hcs hkY
        go_upto_region 11 with (fail)
        generalize hW : World.alloc _ _ = W
        have hX : PlX w qs B bm wr.heap.size ⟨yk, yn, ys⟩ W Xm b v K (256 * k) K.f K.near := by
          rw [← hW]
          exact ⟨hP.new (gone_new _ _), heap_alloc_new _ _⟩
        clear hW x0 x1 x2 hP
        generalize wr.heap.size = ab at hX ⊢
        have HX0 : Hid (PlX w qs B bm ab ⟨yk, yn, ys⟩ W Xm b v K (256 * k) K.f K.near) := hX
        obtain ⟨d0, d1, d2, m0, m1, g0, g1⟩ := hX.cells
        have hlk := hX.look hin
        simp only at hlk d0 d1 d2
        clear hX
        obtain ⟨y, hy⟩ : ∃ y : Sct, (⟨yk, yn, ys⟩ : Sct) = y := ⟨_, rfl⟩
        have HX : Hid (PlX w qs B bm ab y W Xm b v K (256 * k) K.f K.near) := by show PlX _ _ _ _ _ _ _ _ _ _ _ _ _ _; rw [← hy]; exact HX0.out
        have HUse : Hid (∀ (V : World) (Xm : Nat → Prop) (b : Nat) (v : Value) (Kx : St) (c : Nat) (s : Bs), (SA Xm V w.heap.size qs B Kx c ∧ NrO V w.heap.size v K.near) → IMp lvS V b (setO K.f yn s) → (∀ x, lenO (setO K.f yn s) x ≤ 140737488351232) → Calls Tryz.prog 8 #[.agg #[.map (some b), v], .int .i64 yn, .int .i64 bud] V fun r w' => ∃ v', r = .returned (.tuple #[.agg #[.map (some b), v'], .int .i64 (K.go yn s : Nat)]) ∧ NrO w' V.heap.size v' (K.use yn s).near ∧ Below V.heap.size V w') := fun V Xm b v Kx c s h1 h2 h3 => by
          have hok := HX0.out.pl.sa.ok
          have hbk := HE.out.bud
          have := muse (n := yn) (bud := bud) h2 h1.2.toS hok.few (fun x hx => by have := hok.sup x (hok.sub x hx); exact i6_few this.1 this.2) hin h3 ⟨by omega, hb⟩
          rw [← hbk, (use_mgo hok).1, (use_mgo hok).2] at this
          rw [← hbk]
          exact this
        have hst0 : Hid (y = ⟨yk, yn, ys⟩) := hy.symm
        clear hy HX0
        by_cases r0 : 0 ≤ yn
        · by_cases r1 : yn < 16
          · have ho : okN yn = true := okN_iff.2 ⟨r0, r1⟩
            cases hf : K.f yn with
            | some s =>
              rw [hf] at hlk
              simp only [Option.getD_some, Option.isSome_some] at hlk
              go_upto_region 21 with (fail)
              by_cases k4 : yk = 4
              · subst k4
                as_aux_lemma =>
                  have hG := sget (n := yn) HX.out.pl.sa HX.out.pl.low (by omega) hin (by have := HE.out.sp; omega)
                  rw [hf] at hG
                  change Calls _ _ _ _ (fun r w' => r = .returned (.tuple #[.string (str s), .int .i64 0]) ∧ _) at hG
                  go_upto_region 25 with (go_at_call 7; refine Calls.mono hG ?_; rintro r w6 ⟨rfl, e1⟩; have HX6 : Hid (PlX w qs B bm ab y w6 Xm b v (K.getK yn) (256 * k + 16) K.f K.near) := HX.out.call e1; clear e1 hG)
                  clear d0 d1 d2 m0 m1 g0 g1 hlk
                  have hU := HUse.out w6 Xm b v (K.getK yn) (256 * k + 16) s ⟨HX6.out.pl.sa, HX6.out.pl.row⟩
                  rw [setO_self hf] at hU
                  have hU := hU HX6.out.pl.mp (st_lenO HX.out.pl.sa.ok)
                  obtain ⟨d0, d1, d2, m0, m1, g0, g1⟩ := HX6.out.cells
                  rw [hst0.out] at d0 d1 d2
                  simp only at d0 d1 d2
                  go_upto_region 28 with (fail)
                  go_upto_region 37 with (first
                    | (refine wpList_load_row rfl 33 _ rfl bm rfl 33 #[.map (some b), v] (0, 0) _ HX6.out.pl.bx Tryz.underlying33 rfl size_model ?_)
                    | (go_at_call 8; refine Calls.mono hU ?_; rintro r w7 ⟨v7, rfl, e1, e2⟩; obtain ⟨a7, l7, c7, rfl⟩ : ∃ a l c, v7 = .slice a l c := (by obtain ⟨a, c, e⟩ := e1.shape; exact ⟨a, _, c, e⟩); have HX7 : Hid (PlX w qs B bm ab y w7 Xm b v (K.getK yn) (256 * k + 16) K.f K.near) := HX6.out.new e2; have HR7 : Hid (NrO w7 w.heap.size (.slice a7 l7 c7) (K.use yn s).near) := e1.low HX6.out.pl.low; clear e1 e2 hU)
                    | (refine wpList_store_row rfl 33 _ _ rfl _ #[.map (some b), .slice a7 l7 c7] rfl rfl 33 #[.map (some b), v] HX7.out.pl.bx size_model rfl (by simp [Value.oneCell']) ?_))
                  clear d0 d1 d2 m0 m1 g0 g1
                  have HF : Hid (PlX w qs B bm ab y (w7.setRow bm #[.map (some b), .slice a7 l7 c7]) Xm b (.slice a7 l7 c7) (K.use yn s) (256 * k + 256) (K.use yn s).f (K.use yn s).near) := by
                    have h := (HX7.out.setR HR7.out).mono (d := 256 * k + 256) (by omega)
                    have e1 : K.getK yn = K.use yn s := by unfold St.getK; rw [hf]
                    have e2 : (K.use yn s).f = K.f := setO_self hf
                    rw [e1] at h
                    rw [e2]
                    exact h
                  generalize w7.setRow bm #[.map (some b), .slice a7 l7 c7] = wF at HF ⊢
                  have HSq : Hid ((K.use yn s).sp = K.sp + K.go yn s ∧ (K.use yn s).bud = bud ∧ (K.use yn s).sp ≤ 16 * (k + 1)) := ⟨rfl, HE.out.bud, by have h1 := HE.out.sp; have h2 := St.go_le (n := yn) (t := s) HX.out.pl.sa.ok; show K.sp + K.go yn s ≤ _; omega⟩
                  have hsb : K.sp ≤ 16 * 80 := by have := HE.out.sp; omega
                  have hgb : K.go yn s ≤ 16 * 81 := by have := HSq.out.1; have := HSq.out.2.2; omega
                  go_upto_region 38 with (fail)
                  have hE8 : (K.sp : Int) + ((K.go yn s : Nat) : Int) = (((K.use yn s).sp : Nat) : Int) := by rw [HSq.out.1]; simp
                  try simp only [Int.add_zero, Int.natCast_zero, Int.ofNat_zero] at hE8
                  try rw [hE8]
                  clear hE8 hsb hgb
                  obtain ⟨K2, hK2⟩ : ∃ K2, K.use yn s = K2 := ⟨_, rfl⟩
                  rw [hK2] at HF HSq ⊢
                  clear hK2
                  have hsp2 : K2.sp ≤ 100000 := by have := HSq.out.2.2; omega
                  obtain ⟨T2, hT2⟩ : ∃ T2, totL K2.f K2.near = T2 := ⟨_, rfl⟩
                  have hok2 := HF.out.pl.sa.ok
                  have hby : byt (heldO K2.f K2.near) K2.near = T2 := by rw [← hT2]; exact held_tot K2.f K2.near K2.near (fun _ h => h)
                  obtain ⟨Wd, hWd⟩ : ∃ Wd, (wF).drew = Wd := ⟨_, rfl⟩
                  have bd : Below (wF).heap.size (wF) Wd := by rw [← hWd]; exact Below.drew (Below.refl _ _)
                  have HFd : Hid (PlX w qs B bm ab y Wd (Xm) (b) (.slice a7 l7 c7) K2 (256 * k + 256) K2.f K2.near) := HF.out.new bd
                  have hUd := sused HFd.out.pl.sa
                  rw [hby] at hUd
                  have HUm : Hid (∀ V, Below Wd.heap.size Wd V → Calls Tryz.prog 14 #[.agg #[.map (some (b)), .slice a7 l7 c7]] V fun r w' => r = .returned (.int .i64 T2) ∧ Below V.heap.size V w') := fun V hV => by
                    have h2 := HFd.out.new hV
                    have := mused h2.pl.mp h2.pl.row.toS (by have := hok2.few; omega) (fun x hx => by have := hok2.sup x (hok2.sub x hx); exact i6_few this.1 this.2) (st_lenO hok2)
                    rw [hT2] at this
                    exact this
                  have htb : T2 ≤ 16 * 140737488351232 := by
                    rw [← hT2]
                    refine Nat.le_trans (totL_le K2.near (fun x _ => st_lenO hok2 x)) (Nat.mul_le_mul_right _ hok2.few)
                  obtain ⟨_, _, _, q0, q1, _, _⟩ := HFd.out.cells
                  have hS : Wd.cell? ⟨bm, 0, none⟩ = some (.map (some (b))) ∧ Wd.cell? ⟨bm, 1, none⟩ = some (.slice a7 l7 c7) := ⟨q0, q1⟩
                  clear q0 q1 bd hby hT2 hok2
                  refine wp_calmD ?_
                  refine wp_region_L [] (fun W : World => W.cell? ⟨bm, 0, none⟩ = some (.map (some (b))) ∧ W.cell? ⟨bm, 1, none⟩ = some (.slice a7 l7 c7)) (by kernel_rfl) ?_
                  rw [hWd]
                  clear hWd
                  refine wpAnyL_take (i := 0) 172 (v := .pointer (some ⟨qs, 0, none⟩)) rfl rfl (by kernel_rfl) (by kernel_rfl) (by kernel_rfl) (by kernel_rfl) (by kernel_rfl) (by kernel_rfl) (fun _ _ _ h => h) hS (by rfl) (by intro w' hSw; obtain ⟨y1, y2⟩ := hSw; go_simp <;> with_reducible rfl) ?_
                  simp only [Act.put, List.setIfInBounds_toArray, List.set_cons_zero, List.set_cons_succ]
                  refine wpAnyL_take (i := 2) 174 (v := .agg #[.map (some (b)), .slice a7 l7 c7]) rfl rfl (by kernel_rfl) (by kernel_rfl) (by kernel_rfl) (by kernel_rfl) (by kernel_rfl) (by kernel_rfl) (fun _ _ _ h => h) hS (by rfl) (by intro w' hSw; obtain ⟨y1, y2⟩ := hSw; go_simp <;> with_reducible rfl) ?_
                  simp only [Act.put, List.setIfInBounds_toArray, List.set_cons_zero, List.set_cons_succ]
                  refine wpAnyL_one (i := 1) (by kernel_rfl) rfl (fun Ka hKa => ?_)
                  go_simp
                  refine Calls.mono hUd ?_
                  rintro r w5 ⟨rfl, hw5⟩
                  rw [hw5]
                  refine hKa.out _ _ (fun _ => hS) ?_
                  clear hKa Ka hw5 hUd
                  try simp only [Act.put, List.setIfInBounds_toArray, List.set_cons_zero, List.set_cons_succ]
                  have hUm := HUm.out Wd (Below.refl _ _)
                  refine wpAnyL_one (i := 3) (by kernel_rfl) rfl (fun Ka hKa => ?_)
                  go_simp
                  refine Calls.mono hUm ?_
                  rintro r wt ⟨rfl, et⟩
                  have HFt : Hid (PlX w qs B bm ab y wt (Xm) (b) (.slice a7 l7 c7) K2 (256 * k + 256) K2.f K2.near) := HFd.out.new et
                  obtain ⟨_, _, _, q0, q1, _, _⟩ := HFt.out.cells
                  have hSt : wt.cell? ⟨bm, 0, none⟩ = some (.map (some (b))) ∧ wt.cell? ⟨bm, 1, none⟩ = some (.slice a7 l7 c7) := ⟨q0, q1⟩
                  refine hKa.out _ _ (fun _ => hSt) ?_
                  clear hKa Ka et hUm hS q0 q1
                  try simp only [Act.put, List.setIfInBounds_toArray, List.set_cons_zero, List.set_cons_succ]
                  refine wpAnyL_take (i := 4) 176 (v := .bool false) rfl rfl (by kernel_rfl) (by kernel_rfl) (by kernel_rfl) (by kernel_rfl) (by kernel_rfl) (by kernel_rfl) (fun _ _ _ h => h) hSt (by rfl) (by intro w' hSw; obtain ⟨y1, y2⟩ := hSw; go_simp <;> with_reducible rfl) ?_
                  simp only [Act.put, List.setIfInBounds_toArray, List.set_cons_zero, List.set_cons_succ]
                  refine wpAnyL_take (i := 5) 177 (v := .bool false) rfl rfl (by kernel_rfl) (by kernel_rfl) (by kernel_rfl) (by kernel_rfl) (by kernel_rfl) (by kernel_rfl) (fun _ _ _ h => h) hSt (by rfl) (by intro w' hSw; obtain ⟨y1, y2⟩ := hSw; go_simp <;> with_reducible rfl) ?_
                  simp only [Act.put, List.setIfInBounds_toArray, List.set_cons_zero, List.set_cons_succ]
                  refine wpAnyL_take (i := 6) 178 (v := .pointer (some ⟨qs, 0, none⟩)) rfl rfl (by kernel_rfl) (by kernel_rfl) (by kernel_rfl) (by kernel_rfl) (by kernel_rfl) (by kernel_rfl) (fun _ _ _ h => h) hSt (by rfl) (by intro w' hSw; obtain ⟨y1, y2⟩ := hSw; go_simp <;> with_reducible rfl) ?_
                  simp only [Act.put, List.setIfInBounds_toArray, List.set_cons_zero, List.set_cons_succ]
                  refine wpAnyL_take (i := 8) 180 (v := .int .i64 K2.sp) rfl rfl (by kernel_rfl) (by kernel_rfl) (by kernel_rfl) (by kernel_rfl) (by kernel_rfl) (by kernel_rfl) (fun _ _ _ h => h) hSt (by rfl) (by intro w' hSw; obtain ⟨y1, y2⟩ := hSw; go_simp <;> with_reducible rfl) ?_
                  simp only [Act.put, List.setIfInBounds_toArray, List.set_cons_zero, List.set_cons_succ]
                  have hSp := sspills HFt.out.pl.sa
                  refine wpAnyL_one (i := 7) (by kernel_rfl) rfl (fun Ka hKa => ?_)
                  go_simp
                  refine Calls.mono hSp ?_
                  rintro r w5 ⟨rfl, hw5⟩
                  rw [hw5]
                  refine hKa.out _ _ (fun _ => hSt) ?_
                  clear hKa Ka hw5 hSp
                  try simp only [Act.put, List.setIfInBounds_toArray, List.set_cons_zero, List.set_cons_succ]
                  refine wpAnyL_take (i := 9) 181 (v := .bool false) rfl rfl (by kernel_rfl) (by kernel_rfl) (by kernel_rfl) (by kernel_rfl) (by kernel_rfl) (by kernel_rfl) (fun _ _ _ h => h) hSt (by rfl) (by intro w' hSw; obtain ⟨y1, y2⟩ := hSw; go_simp <;> with_reducible rfl) ?_
                  simp only [Act.put, List.setIfInBounds_toArray, List.set_cons_zero, List.set_cons_succ]
                  refine wpAnyL_take (i := 10) 182 (v := .bool false) rfl rfl (by kernel_rfl) (by kernel_rfl) (by kernel_rfl) (by kernel_rfl) (by kernel_rfl) (by kernel_rfl) (fun _ _ _ h => h) hSt (by rfl) (by intro w' hSw; obtain ⟨y1, y2⟩ := hSw; go_simp <;> with_reducible rfl) ?_
                  simp only [Act.put, List.setIfInBounds_toArray, List.set_cons_zero, List.set_cons_succ]
                  refine wpAnyL_done (by kernel_rfl) ?_ _
                  have hNb : Calls Tryz.prog 16 #[.pointer (some ⟨qs, 0, none⟩), .agg #[.map (some (b)), .slice a7 l7 c7]] wt fun r w' => r = .returned (.bool true) ∧ Below wt.heap.size wt w' := lnumbers HFt.out.pl.sa HFt.out.pl.mp (by obtain ⟨a, c, e⟩ := HFt.out.pl.row.shape; exact ⟨a, _, c, e⟩)
                  obtain ⟨_, _, _, q0, q1, _, _⟩ := HFt.out.cells
                  clear hSt
                  go_wp2_with (go_at_call 16; refine Calls.mono hNb ?_; rintro r w8 ⟨rfl, e1⟩; have HB8 : Hid (Below wt.heap.size wt w8) := e1; clear e1 hNb)
                  go_roundw
                  case rel => exact ⟨k + 1, K2, hlt, h80, by go_num, by rfl, ⟨⟨_, _, _, (HFt.out.new HB8.out).pl⟩, HSq.out.2.1, HSq.out.2.2⟩⟩
                  case measure => simp [intOf]; omega
              · have hn4 := k4
                by_cases k5 : yk = 5
                · subst k5
                  as_aux_lemma =>
                    have hG := sget (n := yn) HX.out.pl.sa HX.out.pl.low (by omega) hin (by have := HE.out.sp; omega)
                    rw [hf] at hG
                    change Calls _ _ _ _ (fun r w' => r = .returned (.tuple #[.string (str s), .int .i64 0]) ∧ _) at hG
                    go_upto_region 25 with (go_at_call 7; refine Calls.mono hG ?_; rintro r w6 ⟨rfl, e1⟩; have HX6 : Hid (PlX w qs B bm ab y w6 Xm b v (K.getK yn) (256 * k + 16) K.f K.near) := HX.out.call e1; clear e1 hG)
                    clear d0 d1 d2 m0 m1 g0 g1 hlk
                    have hU := HUse.out w6 Xm b v (K.getK yn) (256 * k + 16) s ⟨HX6.out.pl.sa, HX6.out.pl.row⟩
                    rw [setO_self hf] at hU
                    have hU := hU HX6.out.pl.mp (st_lenO HX.out.pl.sa.ok)
                    obtain ⟨d0, d1, d2, m0, m1, g0, g1⟩ := HX6.out.cells
                    rw [hst0.out] at d0 d1 d2
                    simp only at d0 d1 d2
                    go_upto_region 28 with (fail)
                    go_upto_region 37 with (first
                      | (refine wpList_load_row rfl 33 _ rfl bm rfl 33 #[.map (some b), v] (0, 0) _ HX6.out.pl.bx Tryz.underlying33 rfl size_model ?_)
                      | (go_at_call 8; refine Calls.mono hU ?_; rintro r w7 ⟨v7, rfl, e1, e2⟩; obtain ⟨a7, l7, c7, rfl⟩ : ∃ a l c, v7 = .slice a l c := (by obtain ⟨a, c, e⟩ := e1.shape; exact ⟨a, _, c, e⟩); have HX7 : Hid (PlX w qs B bm ab y w7 Xm b v (K.getK yn) (256 * k + 16) K.f K.near) := HX6.out.new e2; have HR7 : Hid (NrO w7 w.heap.size (.slice a7 l7 c7) (K.use yn s).near) := e1.low HX6.out.pl.low; clear e1 e2 hU)
                      | (refine wpList_store_row rfl 33 _ _ rfl _ #[.map (some b), .slice a7 l7 c7] rfl rfl 33 #[.map (some b), v] HX7.out.pl.bx size_model rfl (by simp [Value.oneCell']) ?_))
                    clear d0 d1 d2 m0 m1 g0 g1
                    have HF : Hid (PlX w qs B bm ab y (w7.setRow bm #[.map (some b), .slice a7 l7 c7]) Xm b (.slice a7 l7 c7) (K.use yn s) (256 * k + 256) (K.use yn s).f (K.use yn s).near) := by
                      have h := (HX7.out.setR HR7.out).mono (d := 256 * k + 256) (by omega)
                      have e1 : K.getK yn = K.use yn s := by unfold St.getK; rw [hf]
                      have e2 : (K.use yn s).f = K.f := setO_self hf
                      rw [e1] at h
                      rw [e2]
                      exact h
                    generalize w7.setRow bm #[.map (some b), .slice a7 l7 c7] = wF at HF ⊢
                    have HSq : Hid ((K.use yn s).sp = K.sp + K.go yn s ∧ (K.use yn s).bud = bud ∧ (K.use yn s).sp ≤ 16 * (k + 1)) := ⟨rfl, HE.out.bud, by have h1 := HE.out.sp; have h2 := St.go_le (n := yn) (t := s) HX.out.pl.sa.ok; show K.sp + K.go yn s ≤ _; omega⟩
                    have hsb : K.sp ≤ 16 * 80 := by have := HE.out.sp; omega
                    have hgb : K.go yn s ≤ 16 * 81 := by have := HSq.out.1; have := HSq.out.2.2; omega
                    go_upto_region 38 with (fail)
                    have hE8 : (K.sp : Int) + ((K.go yn s : Nat) : Int) = (((K.use yn s).sp : Nat) : Int) := by rw [HSq.out.1]; simp
                    try simp only [Int.add_zero, Int.natCast_zero, Int.ofNat_zero] at hE8
                    try rw [hE8]
                    clear hE8 hsb hgb
                    obtain ⟨K2, hK2⟩ : ∃ K2, K.use yn s = K2 := ⟨_, rfl⟩
                    rw [hK2] at HF HSq ⊢
                    clear hK2
                    have hsp2 : K2.sp ≤ 100000 := by have := HSq.out.2.2; omega
                    obtain ⟨T2, hT2⟩ : ∃ T2, totL K2.f K2.near = T2 := ⟨_, rfl⟩
                    have hok2 := HF.out.pl.sa.ok
                    have hby : byt (heldO K2.f K2.near) K2.near = T2 := by rw [← hT2]; exact held_tot K2.f K2.near K2.near (fun _ h => h)
                    obtain ⟨Wd, hWd⟩ : ∃ Wd, (wF).drew = Wd := ⟨_, rfl⟩
                    have bd : Below (wF).heap.size (wF) Wd := by rw [← hWd]; exact Below.drew (Below.refl _ _)
                    have HFd : Hid (PlX w qs B bm ab y Wd (Xm) (b) (.slice a7 l7 c7) K2 (256 * k + 256) K2.f K2.near) := HF.out.new bd
                    have hUd := sused HFd.out.pl.sa
                    rw [hby] at hUd
                    have HUm : Hid (∀ V, Below Wd.heap.size Wd V → Calls Tryz.prog 14 #[.agg #[.map (some (b)), .slice a7 l7 c7]] V fun r w' => r = .returned (.int .i64 T2) ∧ Below V.heap.size V w') := fun V hV => by
                      have h2 := HFd.out.new hV
                      have := mused h2.pl.mp h2.pl.row.toS (by have := hok2.few; omega) (fun x hx => by have := hok2.sup x (hok2.sub x hx); exact i6_few this.1 this.2) (st_lenO hok2)
                      rw [hT2] at this
                      exact this
                    have htb : T2 ≤ 16 * 140737488351232 := by
                      rw [← hT2]
                      refine Nat.le_trans (totL_le K2.near (fun x _ => st_lenO hok2 x)) (Nat.mul_le_mul_right _ hok2.few)
                    obtain ⟨_, _, _, q0, q1, _, _⟩ := HFd.out.cells
                    have hS : Wd.cell? ⟨bm, 0, none⟩ = some (.map (some (b))) ∧ Wd.cell? ⟨bm, 1, none⟩ = some (.slice a7 l7 c7) := ⟨q0, q1⟩
                    clear q0 q1 bd hby hT2 hok2
                    refine wp_calmD ?_
                    refine wp_region_L [] (fun W : World => W.cell? ⟨bm, 0, none⟩ = some (.map (some (b))) ∧ W.cell? ⟨bm, 1, none⟩ = some (.slice a7 l7 c7)) (by kernel_rfl) ?_
                    rw [hWd]
                    clear hWd
                    refine wpAnyL_take (i := 0) 172 (v := .pointer (some ⟨qs, 0, none⟩)) rfl rfl (by kernel_rfl) (by kernel_rfl) (by kernel_rfl) (by kernel_rfl) (by kernel_rfl) (by kernel_rfl) (fun _ _ _ h => h) hS (by rfl) (by intro w' hSw; obtain ⟨y1, y2⟩ := hSw; go_simp <;> with_reducible rfl) ?_
                    simp only [Act.put, List.setIfInBounds_toArray, List.set_cons_zero, List.set_cons_succ]
                    refine wpAnyL_take (i := 2) 174 (v := .agg #[.map (some (b)), .slice a7 l7 c7]) rfl rfl (by kernel_rfl) (by kernel_rfl) (by kernel_rfl) (by kernel_rfl) (by kernel_rfl) (by kernel_rfl) (fun _ _ _ h => h) hS (by rfl) (by intro w' hSw; obtain ⟨y1, y2⟩ := hSw; go_simp <;> with_reducible rfl) ?_
                    simp only [Act.put, List.setIfInBounds_toArray, List.set_cons_zero, List.set_cons_succ]
                    refine wpAnyL_one (i := 1) (by kernel_rfl) rfl (fun Ka hKa => ?_)
                    go_simp
                    refine Calls.mono hUd ?_
                    rintro r w5 ⟨rfl, hw5⟩
                    rw [hw5]
                    refine hKa.out _ _ (fun _ => hS) ?_
                    clear hKa Ka hw5 hUd
                    try simp only [Act.put, List.setIfInBounds_toArray, List.set_cons_zero, List.set_cons_succ]
                    have hUm := HUm.out Wd (Below.refl _ _)
                    refine wpAnyL_one (i := 3) (by kernel_rfl) rfl (fun Ka hKa => ?_)
                    go_simp
                    refine Calls.mono hUm ?_
                    rintro r wt ⟨rfl, et⟩
                    have HFt : Hid (PlX w qs B bm ab y wt (Xm) (b) (.slice a7 l7 c7) K2 (256 * k + 256) K2.f K2.near) := HFd.out.new et
                    obtain ⟨_, _, _, q0, q1, _, _⟩ := HFt.out.cells
                    have hSt : wt.cell? ⟨bm, 0, none⟩ = some (.map (some (b))) ∧ wt.cell? ⟨bm, 1, none⟩ = some (.slice a7 l7 c7) := ⟨q0, q1⟩
                    refine hKa.out _ _ (fun _ => hSt) ?_
                    clear hKa Ka et hUm hS q0 q1
                    try simp only [Act.put, List.setIfInBounds_toArray, List.set_cons_zero, List.set_cons_succ]
                    refine wpAnyL_take (i := 4) 176 (v := .bool false) rfl rfl (by kernel_rfl) (by kernel_rfl) (by kernel_rfl) (by kernel_rfl) (by kernel_rfl) (by kernel_rfl) (fun _ _ _ h => h) hSt (by rfl) (by intro w' hSw; obtain ⟨y1, y2⟩ := hSw; go_simp <;> with_reducible rfl) ?_
                    simp only [Act.put, List.setIfInBounds_toArray, List.set_cons_zero, List.set_cons_succ]
                    refine wpAnyL_take (i := 5) 177 (v := .bool false) rfl rfl (by kernel_rfl) (by kernel_rfl) (by kernel_rfl) (by kernel_rfl) (by kernel_rfl) (by kernel_rfl) (fun _ _ _ h => h) hSt (by rfl) (by intro w' hSw; obtain ⟨y1, y2⟩ := hSw; go_simp <;> with_reducible rfl) ?_
                    simp only [Act.put, List.setIfInBounds_toArray, List.set_cons_zero, List.set_cons_succ]
                    refine wpAnyL_take (i := 6) 178 (v := .pointer (some ⟨qs, 0, none⟩)) rfl rfl (by kernel_rfl) (by kernel_rfl) (by kernel_rfl) (by kernel_rfl) (by kernel_rfl) (by kernel_rfl) (fun _ _ _ h => h) hSt (by rfl) (by intro w' hSw; obtain ⟨y1, y2⟩ := hSw; go_simp <;> with_reducible rfl) ?_
                    simp only [Act.put, List.setIfInBounds_toArray, List.set_cons_zero, List.set_cons_succ]
                    refine wpAnyL_take (i := 8) 180 (v := .int .i64 K2.sp) rfl rfl (by kernel_rfl) (by kernel_rfl) (by kernel_rfl) (by kernel_rfl) (by kernel_rfl) (by kernel_rfl) (fun _ _ _ h => h) hSt (by rfl) (by intro w' hSw; obtain ⟨y1, y2⟩ := hSw; go_simp <;> with_reducible rfl) ?_
                    simp only [Act.put, List.setIfInBounds_toArray, List.set_cons_zero, List.set_cons_succ]
                    have hSp := sspills HFt.out.pl.sa
                    refine wpAnyL_one (i := 7) (by kernel_rfl) rfl (fun Ka hKa => ?_)
                    go_simp
                    refine Calls.mono hSp ?_
                    rintro r w5 ⟨rfl, hw5⟩
                    rw [hw5]
                    refine hKa.out _ _ (fun _ => hSt) ?_
                    clear hKa Ka hw5 hSp
                    try simp only [Act.put, List.setIfInBounds_toArray, List.set_cons_zero, List.set_cons_succ]
                    refine wpAnyL_take (i := 9) 181 (v := .bool false) rfl rfl (by kernel_rfl) (by kernel_rfl) (by kernel_rfl) (by kernel_rfl) (by kernel_rfl) (by kernel_rfl) (fun _ _ _ h => h) hSt (by rfl) (by intro w' hSw; obtain ⟨y1, y2⟩ := hSw; go_simp <;> with_reducible rfl) ?_
                    simp only [Act.put, List.setIfInBounds_toArray, List.set_cons_zero, List.set_cons_succ]
                    refine wpAnyL_take (i := 10) 182 (v := .bool false) rfl rfl (by kernel_rfl) (by kernel_rfl) (by kernel_rfl) (by kernel_rfl) (by kernel_rfl) (by kernel_rfl) (fun _ _ _ h => h) hSt (by rfl) (by intro w' hSw; obtain ⟨y1, y2⟩ := hSw; go_simp <;> with_reducible rfl) ?_
                    simp only [Act.put, List.setIfInBounds_toArray, List.set_cons_zero, List.set_cons_succ]
                    refine wpAnyL_done (by kernel_rfl) ?_ _
                    have hNb : Calls Tryz.prog 16 #[.pointer (some ⟨qs, 0, none⟩), .agg #[.map (some (b)), .slice a7 l7 c7]] wt fun r w' => r = .returned (.bool true) ∧ Below wt.heap.size wt w' := lnumbers HFt.out.pl.sa HFt.out.pl.mp (by obtain ⟨a, c, e⟩ := HFt.out.pl.row.shape; exact ⟨a, _, c, e⟩)
                    obtain ⟨_, _, _, q0, q1, _, _⟩ := HFt.out.cells
                    clear hSt
                    go_wp2_with (go_at_call 16; refine Calls.mono hNb ?_; rintro r w8 ⟨rfl, e1⟩; have HB8 : Hid (Below wt.heap.size wt w8) := e1; clear e1 hNb)
                    go_roundw
                    case rel => exact ⟨k + 1, K2, hlt, h80, by go_num, by rfl, ⟨⟨_, _, _, (HFt.out.new HB8.out).pl⟩, HSq.out.2.1, HSq.out.2.2⟩⟩
                    case measure => simp [intOf]; omega
                · have hn5 := k5
                  by_cases k6 : yk = 6
                  · subst k6
                    as_aux_lemma =>
                      have hG := sget (n := yn) HX.out.pl.sa HX.out.pl.low (by omega) hin (by have := HE.out.sp; omega)
                      rw [hf] at hG
                      change Calls _ _ _ _ (fun r w' => r = .returned (.tuple #[.string (str s), .int .i64 0]) ∧ _) at hG
                      go_upto_region 25 with (go_at_call 7; refine Calls.mono hG ?_; rintro r w6 ⟨rfl, e1⟩; have HX6 : Hid (PlX w qs B bm ab y w6 Xm b v (K.getK yn) (256 * k + 16) K.f K.near) := HX.out.call e1; clear e1 hG)
                      clear d0 d1 d2 m0 m1 g0 g1 hlk
                      have hU := HUse.out w6 Xm b v (K.getK yn) (256 * k + 16) s ⟨HX6.out.pl.sa, HX6.out.pl.row⟩
                      rw [setO_self hf] at hU
                      have hU := hU HX6.out.pl.mp (st_lenO HX.out.pl.sa.ok)
                      obtain ⟨d0, d1, d2, m0, m1, g0, g1⟩ := HX6.out.cells
                      rw [hst0.out] at d0 d1 d2
                      simp only at d0 d1 d2
                      go_upto_region 28 with (fail)
                      go_upto_region 37 with (first
                        | (refine wpList_load_row rfl 33 _ rfl bm rfl 33 #[.map (some b), v] (0, 0) _ HX6.out.pl.bx Tryz.underlying33 rfl size_model ?_)
                        | (go_at_call 8; refine Calls.mono hU ?_; rintro r w7 ⟨v7, rfl, e1, e2⟩; obtain ⟨a7, l7, c7, rfl⟩ : ∃ a l c, v7 = .slice a l c := (by obtain ⟨a, c, e⟩ := e1.shape; exact ⟨a, _, c, e⟩); have HX7 : Hid (PlX w qs B bm ab y w7 Xm b v (K.getK yn) (256 * k + 16) K.f K.near) := HX6.out.new e2; have HR7 : Hid (NrO w7 w.heap.size (.slice a7 l7 c7) (K.use yn s).near) := e1.low HX6.out.pl.low; clear e1 e2 hU)
                        | (refine wpList_store_row rfl 33 _ _ rfl _ #[.map (some b), .slice a7 l7 c7] rfl rfl 33 #[.map (some b), v] HX7.out.pl.bx size_model rfl (by simp [Value.oneCell']) ?_))
                      clear d0 d1 d2 m0 m1 g0 g1
                      have HF : Hid (PlX w qs B bm ab y (w7.setRow bm #[.map (some b), .slice a7 l7 c7]) Xm b (.slice a7 l7 c7) (K.use yn s) (256 * k + 256) (K.use yn s).f (K.use yn s).near) := by
                        have h := (HX7.out.setR HR7.out).mono (d := 256 * k + 256) (by omega)
                        have e1 : K.getK yn = K.use yn s := by unfold St.getK; rw [hf]
                        have e2 : (K.use yn s).f = K.f := setO_self hf
                        rw [e1] at h
                        rw [e2]
                        exact h
                      generalize w7.setRow bm #[.map (some b), .slice a7 l7 c7] = wF at HF ⊢
                      have HSq : Hid ((K.use yn s).sp = K.sp + K.go yn s ∧ (K.use yn s).bud = bud ∧ (K.use yn s).sp ≤ 16 * (k + 1)) := ⟨rfl, HE.out.bud, by have h1 := HE.out.sp; have h2 := St.go_le (n := yn) (t := s) HX.out.pl.sa.ok; show K.sp + K.go yn s ≤ _; omega⟩
                      have hsb : K.sp ≤ 16 * 80 := by have := HE.out.sp; omega
                      have hgb : K.go yn s ≤ 16 * 81 := by have := HSq.out.1; have := HSq.out.2.2; omega
                      go_upto_region 38 with (fail)
                      have hE8 : (K.sp : Int) + ((K.go yn s : Nat) : Int) = (((K.use yn s).sp : Nat) : Int) := by rw [HSq.out.1]; simp
                      try simp only [Int.add_zero, Int.natCast_zero, Int.ofNat_zero] at hE8
                      try rw [hE8]
                      clear hE8 hsb hgb
                      obtain ⟨K2, hK2⟩ : ∃ K2, K.use yn s = K2 := ⟨_, rfl⟩
                      rw [hK2] at HF HSq ⊢
                      clear hK2
                      have hsp2 : K2.sp ≤ 100000 := by have := HSq.out.2.2; omega
                      obtain ⟨T2, hT2⟩ : ∃ T2, totL K2.f K2.near = T2 := ⟨_, rfl⟩
                      have hok2 := HF.out.pl.sa.ok
                      have hby : byt (heldO K2.f K2.near) K2.near = T2 := by rw [← hT2]; exact held_tot K2.f K2.near K2.near (fun _ h => h)
                      obtain ⟨Wd, hWd⟩ : ∃ Wd, (wF).drew = Wd := ⟨_, rfl⟩
                      have bd : Below (wF).heap.size (wF) Wd := by rw [← hWd]; exact Below.drew (Below.refl _ _)
                      have HFd : Hid (PlX w qs B bm ab y Wd (Xm) (b) (.slice a7 l7 c7) K2 (256 * k + 256) K2.f K2.near) := HF.out.new bd
                      have hUd := sused HFd.out.pl.sa
                      rw [hby] at hUd
                      have HUm : Hid (∀ V, Below Wd.heap.size Wd V → Calls Tryz.prog 14 #[.agg #[.map (some (b)), .slice a7 l7 c7]] V fun r w' => r = .returned (.int .i64 T2) ∧ Below V.heap.size V w') := fun V hV => by
                        have h2 := HFd.out.new hV
                        have := mused h2.pl.mp h2.pl.row.toS (by have := hok2.few; omega) (fun x hx => by have := hok2.sup x (hok2.sub x hx); exact i6_few this.1 this.2) (st_lenO hok2)
                        rw [hT2] at this
                        exact this
                      have htb : T2 ≤ 16 * 140737488351232 := by
                        rw [← hT2]
                        refine Nat.le_trans (totL_le K2.near (fun x _ => st_lenO hok2 x)) (Nat.mul_le_mul_right _ hok2.few)
                      obtain ⟨_, _, _, q0, q1, _, _⟩ := HFd.out.cells
                      have hS : Wd.cell? ⟨bm, 0, none⟩ = some (.map (some (b))) ∧ Wd.cell? ⟨bm, 1, none⟩ = some (.slice a7 l7 c7) := ⟨q0, q1⟩
                      clear q0 q1 bd hby hT2 hok2
                      refine wp_calmD ?_
                      refine wp_region_L [] (fun W : World => W.cell? ⟨bm, 0, none⟩ = some (.map (some (b))) ∧ W.cell? ⟨bm, 1, none⟩ = some (.slice a7 l7 c7)) (by kernel_rfl) ?_
                      rw [hWd]
                      clear hWd
                      refine wpAnyL_take (i := 0) 172 (v := .pointer (some ⟨qs, 0, none⟩)) rfl rfl (by kernel_rfl) (by kernel_rfl) (by kernel_rfl) (by kernel_rfl) (by kernel_rfl) (by kernel_rfl) (fun _ _ _ h => h) hS (by rfl) (by intro w' hSw; obtain ⟨y1, y2⟩ := hSw; go_simp <;> with_reducible rfl) ?_
                      simp only [Act.put, List.setIfInBounds_toArray, List.set_cons_zero, List.set_cons_succ]
                      refine wpAnyL_take (i := 2) 174 (v := .agg #[.map (some (b)), .slice a7 l7 c7]) rfl rfl (by kernel_rfl) (by kernel_rfl) (by kernel_rfl) (by kernel_rfl) (by kernel_rfl) (by kernel_rfl) (fun _ _ _ h => h) hS (by rfl) (by intro w' hSw; obtain ⟨y1, y2⟩ := hSw; go_simp <;> with_reducible rfl) ?_
                      simp only [Act.put, List.setIfInBounds_toArray, List.set_cons_zero, List.set_cons_succ]
                      refine wpAnyL_one (i := 1) (by kernel_rfl) rfl (fun Ka hKa => ?_)
                      go_simp
                      refine Calls.mono hUd ?_
                      rintro r w5 ⟨rfl, hw5⟩
                      rw [hw5]
                      refine hKa.out _ _ (fun _ => hS) ?_
                      clear hKa Ka hw5 hUd
                      try simp only [Act.put, List.setIfInBounds_toArray, List.set_cons_zero, List.set_cons_succ]
                      have hUm := HUm.out Wd (Below.refl _ _)
                      refine wpAnyL_one (i := 3) (by kernel_rfl) rfl (fun Ka hKa => ?_)
                      go_simp
                      refine Calls.mono hUm ?_
                      rintro r wt ⟨rfl, et⟩
                      have HFt : Hid (PlX w qs B bm ab y wt (Xm) (b) (.slice a7 l7 c7) K2 (256 * k + 256) K2.f K2.near) := HFd.out.new et
                      obtain ⟨_, _, _, q0, q1, _, _⟩ := HFt.out.cells
                      have hSt : wt.cell? ⟨bm, 0, none⟩ = some (.map (some (b))) ∧ wt.cell? ⟨bm, 1, none⟩ = some (.slice a7 l7 c7) := ⟨q0, q1⟩
                      refine hKa.out _ _ (fun _ => hSt) ?_
                      clear hKa Ka et hUm hS q0 q1
                      try simp only [Act.put, List.setIfInBounds_toArray, List.set_cons_zero, List.set_cons_succ]
                      refine wpAnyL_take (i := 4) 176 (v := .bool false) rfl rfl (by kernel_rfl) (by kernel_rfl) (by kernel_rfl) (by kernel_rfl) (by kernel_rfl) (by kernel_rfl) (fun _ _ _ h => h) hSt (by rfl) (by intro w' hSw; obtain ⟨y1, y2⟩ := hSw; go_simp <;> with_reducible rfl) ?_
                      simp only [Act.put, List.setIfInBounds_toArray, List.set_cons_zero, List.set_cons_succ]
                      refine wpAnyL_take (i := 5) 177 (v := .bool false) rfl rfl (by kernel_rfl) (by kernel_rfl) (by kernel_rfl) (by kernel_rfl) (by kernel_rfl) (by kernel_rfl) (fun _ _ _ h => h) hSt (by rfl) (by intro w' hSw; obtain ⟨y1, y2⟩ := hSw; go_simp <;> with_reducible rfl) ?_
                      simp only [Act.put, List.setIfInBounds_toArray, List.set_cons_zero, List.set_cons_succ]
                      refine wpAnyL_take (i := 6) 178 (v := .pointer (some ⟨qs, 0, none⟩)) rfl rfl (by kernel_rfl) (by kernel_rfl) (by kernel_rfl) (by kernel_rfl) (by kernel_rfl) (by kernel_rfl) (fun _ _ _ h => h) hSt (by rfl) (by intro w' hSw; obtain ⟨y1, y2⟩ := hSw; go_simp <;> with_reducible rfl) ?_
                      simp only [Act.put, List.setIfInBounds_toArray, List.set_cons_zero, List.set_cons_succ]
                      refine wpAnyL_take (i := 8) 180 (v := .int .i64 K2.sp) rfl rfl (by kernel_rfl) (by kernel_rfl) (by kernel_rfl) (by kernel_rfl) (by kernel_rfl) (by kernel_rfl) (fun _ _ _ h => h) hSt (by rfl) (by intro w' hSw; obtain ⟨y1, y2⟩ := hSw; go_simp <;> with_reducible rfl) ?_
                      simp only [Act.put, List.setIfInBounds_toArray, List.set_cons_zero, List.set_cons_succ]
                      have hSp := sspills HFt.out.pl.sa
                      refine wpAnyL_one (i := 7) (by kernel_rfl) rfl (fun Ka hKa => ?_)
                      go_simp
                      refine Calls.mono hSp ?_
                      rintro r w5 ⟨rfl, hw5⟩
                      rw [hw5]
                      refine hKa.out _ _ (fun _ => hSt) ?_
                      clear hKa Ka hw5 hSp
                      try simp only [Act.put, List.setIfInBounds_toArray, List.set_cons_zero, List.set_cons_succ]
                      refine wpAnyL_take (i := 9) 181 (v := .bool false) rfl rfl (by kernel_rfl) (by kernel_rfl) (by kernel_rfl) (by kernel_rfl) (by kernel_rfl) (by kernel_rfl) (fun _ _ _ h => h) hSt (by rfl) (by intro w' hSw; obtain ⟨y1, y2⟩ := hSw; go_simp <;> with_reducible rfl) ?_
                      simp only [Act.put, List.setIfInBounds_toArray, List.set_cons_zero, List.set_cons_succ]
                      refine wpAnyL_take (i := 10) 182 (v := .bool false) rfl rfl (by kernel_rfl) (by kernel_rfl) (by kernel_rfl) (by kernel_rfl) (by kernel_rfl) (by kernel_rfl) (fun _ _ _ h => h) hSt (by rfl) (by intro w' hSw; obtain ⟨y1, y2⟩ := hSw; go_simp <;> with_reducible rfl) ?_
                      simp only [Act.put, List.setIfInBounds_toArray, List.set_cons_zero, List.set_cons_succ]
                      refine wpAnyL_done (by kernel_rfl) ?_ _
                      have hNb : Calls Tryz.prog 16 #[.pointer (some ⟨qs, 0, none⟩), .agg #[.map (some (b)), .slice a7 l7 c7]] wt fun r w' => r = .returned (.bool true) ∧ Below wt.heap.size wt w' := lnumbers HFt.out.pl.sa HFt.out.pl.mp (by obtain ⟨a, c, e⟩ := HFt.out.pl.row.shape; exact ⟨a, _, c, e⟩)
                      obtain ⟨_, _, _, q0, q1, _, _⟩ := HFt.out.cells
                      clear hSt
                      go_wp2_with (go_at_call 16; refine Calls.mono hNb ?_; rintro r w8 ⟨rfl, e1⟩; have HB8 : Hid (Below wt.heap.size wt w8) := e1; clear e1 hNb)
                      go_roundw
                      case rel => exact ⟨k + 1, K2, hlt, h80, by go_num, by rfl, ⟨⟨_, _, _, (HFt.out.new HB8.out).pl⟩, HSq.out.2.1, HSq.out.2.2⟩⟩
                      case measure => simp [intOf]; omega
                  · have hn6 := k6
                    by_cases k7 : yk = 7
                    · subst k7
                      as_aux_lemma =>
                        have hG := sdrop (n := yn) HX.out.pl.sa HX.out.pl.low (by omega) hin
                        rw [hf] at hG
                        change Calls _ _ _ _ (fun r w' => r = .returned (.bool true) ∧ _) at hG
                        go_upto_region 32 with (go_at_call 9; refine Calls.mono hG ?_; rintro r w6 ⟨rfl, e1⟩; have HX6 : Hid (PlX w qs B bm ab y w6 Xm b v (K.dropK yn) (256 * k + 16) K.f K.near) := HX.out.call e1; clear e1 hG)
                        clear d0 d1 d2 m0 m1 g0 g1 hlk
                        obtain ⟨w7, hrun, hm7, hf7⟩ := HX6.out.pl.mp.del mtS hin 0
                        have HX7 : Hid (PlX w qs B bm ab y w7 Xm b v (K.dropK yn) (256 * k + 16) (cutO' K.f yn) K.near) := HX6.out.upd hf7 hm7
                        obtain ⟨d0, d1, d2, m0, m1, g0, g1⟩ := HX6.out.cells
                        rw [hst0.out] at d0 d1 d2
                        simp only at d0 d1 d2
                        clear hm7 hf7
                        go_upto_region 33 with (fail)
                        clear d0 d1 d2 m0 m1 g0 g1 hrun
                        obtain ⟨d0, d1, d2, m0, m1, g0, g1⟩ := HX7.out.cells
                        rw [hst0.out] at d0 d1 d2
                        simp only at d0 d1 d2
                        have hWo := mwithout (n := yn) HX7.out.pl.row.toS (by have := HX.out.pl.sa.ok.few; omega)
                        go_upto_region 37 with (go_at_call 10; refine Calls.mono hWo ?_; rintro r w8 ⟨v7, rfl, e1, e2⟩; obtain ⟨a7, l7, c7, rfl⟩ : ∃ a l c, v7 = .slice a l c := (by obtain ⟨a, c, e⟩ := e1.shape; exact ⟨a, _, c, e⟩); have HX8 : Hid (PlX w qs B bm ab y w8 Xm b v (K.dropK yn) (256 * k + 16) (cutO' K.f yn) K.near) := HX7.out.new e2; have HR8 : Hid (NrO w8 w.heap.size (.slice a7 l7 c7) (woI K.near yn)) := e1.low HX7.out.pl.low; obtain ⟨p0, p1, p2, p3, p4, p5, p6⟩ := HX8.out.cells; rw [hst0.out] at p0 p1 p2; simp only at p0 p1 p2; clear e1 e2 hWo)
                        clear d0 d1 d2 m0 m1 g0 g1 p0 p1 p2 p3 p4 p5 p6
                        have HF : Hid (PlX w qs B bm ab y (w8.setCell ⟨bm, 1, none⟩ (.slice a7 l7 c7)) Xm b (.slice a7 l7 c7) (K.drop yn) (256 * k + 256) (K.drop yn).f (K.drop yn).near) := by
                          have h := (HX8.out.set1 HR8.out).mono (d := 256 * k + 256) (by omega)
                          have e1 : K.dropK yn = K.drop yn := by unfold St.dropK; rw [hf]; rfl
                          rw [e1] at h
                          exact h
                        generalize w8.setCell ⟨bm, 1, none⟩ (.slice a7 l7 c7) = wF at HF ⊢
                        have HSq : Hid ((K.drop yn).sp = K.sp + 0 ∧ (K.drop yn).bud = bud ∧ (K.drop yn).sp ≤ 16 * (k + 1)) := ⟨rfl, HE.out.bud, by have h1 := HE.out.sp; show K.sp ≤ _; omega⟩
                        have hsb : K.sp ≤ 16 * 80 := by have := HE.out.sp; omega
                        have hgb : 0 ≤ 16 * 81 := by have := HSq.out.1; have := HSq.out.2.2; omega
                        go_upto_region 38 with (fail)
                        have hE8 : (K.sp : Int) + ((0 : Nat) : Int) = (((K.drop yn).sp : Nat) : Int) := by rw [HSq.out.1]; simp
                        try simp only [Int.add_zero, Int.natCast_zero, Int.ofNat_zero] at hE8
                        try rw [hE8]
                        clear hE8 hsb hgb
                        obtain ⟨K2, hK2⟩ : ∃ K2, K.drop yn = K2 := ⟨_, rfl⟩
                        rw [hK2] at HF HSq ⊢
                        clear hK2
                        have hsp2 : K2.sp ≤ 100000 := by have := HSq.out.2.2; omega
                        obtain ⟨T2, hT2⟩ : ∃ T2, totL K2.f K2.near = T2 := ⟨_, rfl⟩
                        have hok2 := HF.out.pl.sa.ok
                        have hby : byt (heldO K2.f K2.near) K2.near = T2 := by rw [← hT2]; exact held_tot K2.f K2.near K2.near (fun _ h => h)
                        obtain ⟨Wd, hWd⟩ : ∃ Wd, (wF).drew = Wd := ⟨_, rfl⟩
                        have bd : Below (wF).heap.size (wF) Wd := by rw [← hWd]; exact Below.drew (Below.refl _ _)
                        have HFd : Hid (PlX w qs B bm ab y Wd (Xm) (b) (.slice a7 l7 c7) K2 (256 * k + 256) K2.f K2.near) := HF.out.new bd
                        have hUd := sused HFd.out.pl.sa
                        rw [hby] at hUd
                        have HUm : Hid (∀ V, Below Wd.heap.size Wd V → Calls Tryz.prog 14 #[.agg #[.map (some (b)), .slice a7 l7 c7]] V fun r w' => r = .returned (.int .i64 T2) ∧ Below V.heap.size V w') := fun V hV => by
                          have h2 := HFd.out.new hV
                          have := mused h2.pl.mp h2.pl.row.toS (by have := hok2.few; omega) (fun x hx => by have := hok2.sup x (hok2.sub x hx); exact i6_few this.1 this.2) (st_lenO hok2)
                          rw [hT2] at this
                          exact this
                        have htb : T2 ≤ 16 * 140737488351232 := by
                          rw [← hT2]
                          refine Nat.le_trans (totL_le K2.near (fun x _ => st_lenO hok2 x)) (Nat.mul_le_mul_right _ hok2.few)
                        obtain ⟨_, _, _, q0, q1, _, _⟩ := HFd.out.cells
                        have hS : Wd.cell? ⟨bm, 0, none⟩ = some (.map (some (b))) ∧ Wd.cell? ⟨bm, 1, none⟩ = some (.slice a7 l7 c7) := ⟨q0, q1⟩
                        clear q0 q1 bd hby hT2 hok2
                        refine wp_calmD ?_
                        refine wp_region_L [] (fun W : World => W.cell? ⟨bm, 0, none⟩ = some (.map (some (b))) ∧ W.cell? ⟨bm, 1, none⟩ = some (.slice a7 l7 c7)) (by kernel_rfl) ?_
                        rw [hWd]
                        clear hWd
                        refine wpAnyL_take (i := 0) 172 (v := .pointer (some ⟨qs, 0, none⟩)) rfl rfl (by kernel_rfl) (by kernel_rfl) (by kernel_rfl) (by kernel_rfl) (by kernel_rfl) (by kernel_rfl) (fun _ _ _ h => h) hS (by rfl) (by intro w' hSw; obtain ⟨y1, y2⟩ := hSw; go_simp <;> with_reducible rfl) ?_
                        simp only [Act.put, List.setIfInBounds_toArray, List.set_cons_zero, List.set_cons_succ]
                        refine wpAnyL_take (i := 2) 174 (v := .agg #[.map (some (b)), .slice a7 l7 c7]) rfl rfl (by kernel_rfl) (by kernel_rfl) (by kernel_rfl) (by kernel_rfl) (by kernel_rfl) (by kernel_rfl) (fun _ _ _ h => h) hS (by rfl) (by intro w' hSw; obtain ⟨y1, y2⟩ := hSw; go_simp <;> with_reducible rfl) ?_
                        simp only [Act.put, List.setIfInBounds_toArray, List.set_cons_zero, List.set_cons_succ]
                        refine wpAnyL_one (i := 1) (by kernel_rfl) rfl (fun Ka hKa => ?_)
                        go_simp
                        refine Calls.mono hUd ?_
                        rintro r w5 ⟨rfl, hw5⟩
                        rw [hw5]
                        refine hKa.out _ _ (fun _ => hS) ?_
                        clear hKa Ka hw5 hUd
                        try simp only [Act.put, List.setIfInBounds_toArray, List.set_cons_zero, List.set_cons_succ]
                        have hUm := HUm.out Wd (Below.refl _ _)
                        refine wpAnyL_one (i := 3) (by kernel_rfl) rfl (fun Ka hKa => ?_)
                        go_simp
                        refine Calls.mono hUm ?_
                        rintro r wt ⟨rfl, et⟩
                        have HFt : Hid (PlX w qs B bm ab y wt (Xm) (b) (.slice a7 l7 c7) K2 (256 * k + 256) K2.f K2.near) := HFd.out.new et
                        obtain ⟨_, _, _, q0, q1, _, _⟩ := HFt.out.cells
                        have hSt : wt.cell? ⟨bm, 0, none⟩ = some (.map (some (b))) ∧ wt.cell? ⟨bm, 1, none⟩ = some (.slice a7 l7 c7) := ⟨q0, q1⟩
                        refine hKa.out _ _ (fun _ => hSt) ?_
                        clear hKa Ka et hUm hS q0 q1
                        try simp only [Act.put, List.setIfInBounds_toArray, List.set_cons_zero, List.set_cons_succ]
                        refine wpAnyL_take (i := 4) 176 (v := .bool false) rfl rfl (by kernel_rfl) (by kernel_rfl) (by kernel_rfl) (by kernel_rfl) (by kernel_rfl) (by kernel_rfl) (fun _ _ _ h => h) hSt (by rfl) (by intro w' hSw; obtain ⟨y1, y2⟩ := hSw; go_simp <;> with_reducible rfl) ?_
                        simp only [Act.put, List.setIfInBounds_toArray, List.set_cons_zero, List.set_cons_succ]
                        refine wpAnyL_take (i := 5) 177 (v := .bool false) rfl rfl (by kernel_rfl) (by kernel_rfl) (by kernel_rfl) (by kernel_rfl) (by kernel_rfl) (by kernel_rfl) (fun _ _ _ h => h) hSt (by rfl) (by intro w' hSw; obtain ⟨y1, y2⟩ := hSw; go_simp <;> with_reducible rfl) ?_
                        simp only [Act.put, List.setIfInBounds_toArray, List.set_cons_zero, List.set_cons_succ]
                        refine wpAnyL_take (i := 6) 178 (v := .pointer (some ⟨qs, 0, none⟩)) rfl rfl (by kernel_rfl) (by kernel_rfl) (by kernel_rfl) (by kernel_rfl) (by kernel_rfl) (by kernel_rfl) (fun _ _ _ h => h) hSt (by rfl) (by intro w' hSw; obtain ⟨y1, y2⟩ := hSw; go_simp <;> with_reducible rfl) ?_
                        simp only [Act.put, List.setIfInBounds_toArray, List.set_cons_zero, List.set_cons_succ]
                        refine wpAnyL_take (i := 8) 180 (v := .int .i64 K2.sp) rfl rfl (by kernel_rfl) (by kernel_rfl) (by kernel_rfl) (by kernel_rfl) (by kernel_rfl) (by kernel_rfl) (fun _ _ _ h => h) hSt (by rfl) (by intro w' hSw; obtain ⟨y1, y2⟩ := hSw; go_simp <;> with_reducible rfl) ?_
                        simp only [Act.put, List.setIfInBounds_toArray, List.set_cons_zero, List.set_cons_succ]
                        have hSp := sspills HFt.out.pl.sa
                        refine wpAnyL_one (i := 7) (by kernel_rfl) rfl (fun Ka hKa => ?_)
                        go_simp
                        refine Calls.mono hSp ?_
                        rintro r w5 ⟨rfl, hw5⟩
                        rw [hw5]
                        refine hKa.out _ _ (fun _ => hSt) ?_
                        clear hKa Ka hw5 hSp
                        try simp only [Act.put, List.setIfInBounds_toArray, List.set_cons_zero, List.set_cons_succ]
                        refine wpAnyL_take (i := 9) 181 (v := .bool false) rfl rfl (by kernel_rfl) (by kernel_rfl) (by kernel_rfl) (by kernel_rfl) (by kernel_rfl) (by kernel_rfl) (fun _ _ _ h => h) hSt (by rfl) (by intro w' hSw; obtain ⟨y1, y2⟩ := hSw; go_simp <;> with_reducible rfl) ?_
                        simp only [Act.put, List.setIfInBounds_toArray, List.set_cons_zero, List.set_cons_succ]
                        refine wpAnyL_take (i := 10) 182 (v := .bool false) rfl rfl (by kernel_rfl) (by kernel_rfl) (by kernel_rfl) (by kernel_rfl) (by kernel_rfl) (by kernel_rfl) (fun _ _ _ h => h) hSt (by rfl) (by intro w' hSw; obtain ⟨y1, y2⟩ := hSw; go_simp <;> with_reducible rfl) ?_
                        simp only [Act.put, List.setIfInBounds_toArray, List.set_cons_zero, List.set_cons_succ]
                        refine wpAnyL_done (by kernel_rfl) ?_ _
                        have hNb : Calls Tryz.prog 16 #[.pointer (some ⟨qs, 0, none⟩), .agg #[.map (some (b)), .slice a7 l7 c7]] wt fun r w' => r = .returned (.bool true) ∧ Below wt.heap.size wt w' := lnumbers HFt.out.pl.sa HFt.out.pl.mp (by obtain ⟨a, c, e⟩ := HFt.out.pl.row.shape; exact ⟨a, _, c, e⟩)
                        obtain ⟨_, _, _, q0, q1, _, _⟩ := HFt.out.cells
                        clear hSt
                        go_wp2_with (go_at_call 16; refine Calls.mono hNb ?_; rintro r w8 ⟨rfl, e1⟩; have HB8 : Hid (Below wt.heap.size wt w8) := e1; clear e1 hNb)
                        go_roundw
                        case rel => exact ⟨k + 1, K2, hlt, h80, by go_num, by rfl, ⟨⟨_, _, _, (HFt.out.new HB8.out).pl⟩, HSq.out.2.1, HSq.out.2.2⟩⟩
                        case measure => simp [intOf]; omega
                    · by_cases k8 : yk = 8
                      · subst k8
                        as_aux_lemma =>
                          have hG := sclear HX.out.pl.sa HX.out.pl.low (by omega)
                          go_upto_region 36 with (go_at_call 11; refine Calls.mono hG ?_; rintro r w6 ⟨rfl, e1⟩; have HX6 : Hid (PlX w qs B bm ab y w6 Xm b v K.clr (256 * k + 256) K.f K.near) := HX.out.call e1; clear e1 hG)
                          clear d0 d1 d2 m0 m1 g0 g1 hlk
                          have hmm := @run_makeMap Tryz.prog
                          have hbA : (w6.alloc (.map #[] 0)).heap[bm]? = some (.cells #[.map (some b), v] 33 (0, 0)) := ((gone_new w6 (.map #[] 0)).block bm (lt_blk HX6.out.pl.bx)).trans HX6.out.pl.bx
                          have HbA : Hid ((w6.alloc (.map #[] 0)).heap[bm]? = some (.cells #[.map (some b), v] 33 (0, 0))) := hbA
                          clear hbA
                          go_upto_region 37 with (refine wpList_store_row rfl 33 _ _ rfl _ #[.map (some w6.heap.size), .slice none 0 0] rfl rfl 33 #[.map (some b), v] HbA.out size_model rfl (by simp [Value.oneCell']) ?_)
                          clear hmm HbA
                          obtain ⟨Xn, hF⟩ := HX6.out.anew
                          have HF : Hid (PlX w qs B bm ab y ((w6.alloc (.map #[] 0)).setRow bm #[.map (some w6.heap.size), .slice none 0 0]) Xn w6.heap.size (.slice none 0 0) K.clr (256 * k + 256) K.clr.f K.clr.near) := hF
                          clear hF
                          generalize (w6.alloc (.map #[] 0)).setRow bm #[.map (some w6.heap.size), .slice none 0 0] = wF at HF ⊢
                          generalize w6.heap.size = b' at HF ⊢
                          have HSq : Hid ((K.clr).sp = K.sp + 0 ∧ (K.clr).bud = bud ∧ (K.clr).sp ≤ 16 * (k + 1)) := ⟨rfl, HE.out.bud, by have h1 := HE.out.sp; show K.sp ≤ _; omega⟩
                          have hsb : K.sp ≤ 16 * 80 := by have := HE.out.sp; omega
                          have hgb : 0 ≤ 16 * 81 := by have := HSq.out.1; have := HSq.out.2.2; omega
                          go_upto_region 38 with (fail)
                          have hE8 : (K.sp : Int) + ((0 : Nat) : Int) = (((K.clr).sp : Nat) : Int) := by rw [HSq.out.1]; simp
                          try simp only [Int.add_zero, Int.natCast_zero, Int.ofNat_zero] at hE8
                          try rw [hE8]
                          clear hE8 hsb hgb
                          obtain ⟨K2, hK2⟩ : ∃ K2, K.clr = K2 := ⟨_, rfl⟩
                          rw [hK2] at HF HSq ⊢
                          clear hK2
                          have hsp2 : K2.sp ≤ 100000 := by have := HSq.out.2.2; omega
                          obtain ⟨T2, hT2⟩ : ∃ T2, totL K2.f K2.near = T2 := ⟨_, rfl⟩
                          have hok2 := HF.out.pl.sa.ok
                          have hby : byt (heldO K2.f K2.near) K2.near = T2 := by rw [← hT2]; exact held_tot K2.f K2.near K2.near (fun _ h => h)
                          obtain ⟨Wd, hWd⟩ : ∃ Wd, (wF).drew = Wd := ⟨_, rfl⟩
                          have bd : Below (wF).heap.size (wF) Wd := by rw [← hWd]; exact Below.drew (Below.refl _ _)
                          have HFd : Hid (PlX w qs B bm ab y Wd (Xn) (b') (.slice none 0 0) K2 (256 * k + 256) K2.f K2.near) := HF.out.new bd
                          have hUd := sused HFd.out.pl.sa
                          rw [hby] at hUd
                          have HUm : Hid (∀ V, Below Wd.heap.size Wd V → Calls Tryz.prog 14 #[.agg #[.map (some (b')), .slice none 0 0]] V fun r w' => r = .returned (.int .i64 T2) ∧ Below V.heap.size V w') := fun V hV => by
                            have h2 := HFd.out.new hV
                            have := mused h2.pl.mp h2.pl.row.toS (by have := hok2.few; omega) (fun x hx => by have := hok2.sup x (hok2.sub x hx); exact i6_few this.1 this.2) (st_lenO hok2)
                            rw [hT2] at this
                            exact this
                          have htb : T2 ≤ 16 * 140737488351232 := by
                            rw [← hT2]
                            refine Nat.le_trans (totL_le K2.near (fun x _ => st_lenO hok2 x)) (Nat.mul_le_mul_right _ hok2.few)
                          obtain ⟨_, _, _, q0, q1, _, _⟩ := HFd.out.cells
                          have hS : Wd.cell? ⟨bm, 0, none⟩ = some (.map (some (b'))) ∧ Wd.cell? ⟨bm, 1, none⟩ = some (.slice none 0 0) := ⟨q0, q1⟩
                          clear q0 q1 bd hby hT2 hok2
                          refine wp_calmD ?_
                          refine wp_region_L [] (fun W : World => W.cell? ⟨bm, 0, none⟩ = some (.map (some (b'))) ∧ W.cell? ⟨bm, 1, none⟩ = some (.slice none 0 0)) (by kernel_rfl) ?_
                          rw [hWd]
                          clear hWd
                          refine wpAnyL_take (i := 0) 172 (v := .pointer (some ⟨qs, 0, none⟩)) rfl rfl (by kernel_rfl) (by kernel_rfl) (by kernel_rfl) (by kernel_rfl) (by kernel_rfl) (by kernel_rfl) (fun _ _ _ h => h) hS (by rfl) (by intro w' hSw; obtain ⟨y1, y2⟩ := hSw; go_simp <;> with_reducible rfl) ?_
                          simp only [Act.put, List.setIfInBounds_toArray, List.set_cons_zero, List.set_cons_succ]
                          refine wpAnyL_take (i := 2) 174 (v := .agg #[.map (some (b')), .slice none 0 0]) rfl rfl (by kernel_rfl) (by kernel_rfl) (by kernel_rfl) (by kernel_rfl) (by kernel_rfl) (by kernel_rfl) (fun _ _ _ h => h) hS (by rfl) (by intro w' hSw; obtain ⟨y1, y2⟩ := hSw; go_simp <;> with_reducible rfl) ?_
                          simp only [Act.put, List.setIfInBounds_toArray, List.set_cons_zero, List.set_cons_succ]
                          refine wpAnyL_one (i := 1) (by kernel_rfl) rfl (fun Ka hKa => ?_)
                          go_simp
                          refine Calls.mono hUd ?_
                          rintro r w5 ⟨rfl, hw5⟩
                          rw [hw5]
                          refine hKa.out _ _ (fun _ => hS) ?_
                          clear hKa Ka hw5 hUd
                          try simp only [Act.put, List.setIfInBounds_toArray, List.set_cons_zero, List.set_cons_succ]
                          have hUm := HUm.out Wd (Below.refl _ _)
                          refine wpAnyL_one (i := 3) (by kernel_rfl) rfl (fun Ka hKa => ?_)
                          go_simp
                          refine Calls.mono hUm ?_
                          rintro r wt ⟨rfl, et⟩
                          have HFt : Hid (PlX w qs B bm ab y wt (Xn) (b') (.slice none 0 0) K2 (256 * k + 256) K2.f K2.near) := HFd.out.new et
                          obtain ⟨_, _, _, q0, q1, _, _⟩ := HFt.out.cells
                          have hSt : wt.cell? ⟨bm, 0, none⟩ = some (.map (some (b'))) ∧ wt.cell? ⟨bm, 1, none⟩ = some (.slice none 0 0) := ⟨q0, q1⟩
                          refine hKa.out _ _ (fun _ => hSt) ?_
                          clear hKa Ka et hUm hS q0 q1
                          try simp only [Act.put, List.setIfInBounds_toArray, List.set_cons_zero, List.set_cons_succ]
                          refine wpAnyL_take (i := 4) 176 (v := .bool false) rfl rfl (by kernel_rfl) (by kernel_rfl) (by kernel_rfl) (by kernel_rfl) (by kernel_rfl) (by kernel_rfl) (fun _ _ _ h => h) hSt (by rfl) (by intro w' hSw; obtain ⟨y1, y2⟩ := hSw; go_simp <;> with_reducible rfl) ?_
                          simp only [Act.put, List.setIfInBounds_toArray, List.set_cons_zero, List.set_cons_succ]
                          refine wpAnyL_take (i := 5) 177 (v := .bool false) rfl rfl (by kernel_rfl) (by kernel_rfl) (by kernel_rfl) (by kernel_rfl) (by kernel_rfl) (by kernel_rfl) (fun _ _ _ h => h) hSt (by rfl) (by intro w' hSw; obtain ⟨y1, y2⟩ := hSw; go_simp <;> with_reducible rfl) ?_
                          simp only [Act.put, List.setIfInBounds_toArray, List.set_cons_zero, List.set_cons_succ]
                          refine wpAnyL_take (i := 6) 178 (v := .pointer (some ⟨qs, 0, none⟩)) rfl rfl (by kernel_rfl) (by kernel_rfl) (by kernel_rfl) (by kernel_rfl) (by kernel_rfl) (by kernel_rfl) (fun _ _ _ h => h) hSt (by rfl) (by intro w' hSw; obtain ⟨y1, y2⟩ := hSw; go_simp <;> with_reducible rfl) ?_
                          simp only [Act.put, List.setIfInBounds_toArray, List.set_cons_zero, List.set_cons_succ]
                          refine wpAnyL_take (i := 8) 180 (v := .int .i64 K2.sp) rfl rfl (by kernel_rfl) (by kernel_rfl) (by kernel_rfl) (by kernel_rfl) (by kernel_rfl) (by kernel_rfl) (fun _ _ _ h => h) hSt (by rfl) (by intro w' hSw; obtain ⟨y1, y2⟩ := hSw; go_simp <;> with_reducible rfl) ?_
                          simp only [Act.put, List.setIfInBounds_toArray, List.set_cons_zero, List.set_cons_succ]
                          have hSp := sspills HFt.out.pl.sa
                          refine wpAnyL_one (i := 7) (by kernel_rfl) rfl (fun Ka hKa => ?_)
                          go_simp
                          refine Calls.mono hSp ?_
                          rintro r w5 ⟨rfl, hw5⟩
                          rw [hw5]
                          refine hKa.out _ _ (fun _ => hSt) ?_
                          clear hKa Ka hw5 hSp
                          try simp only [Act.put, List.setIfInBounds_toArray, List.set_cons_zero, List.set_cons_succ]
                          refine wpAnyL_take (i := 9) 181 (v := .bool false) rfl rfl (by kernel_rfl) (by kernel_rfl) (by kernel_rfl) (by kernel_rfl) (by kernel_rfl) (by kernel_rfl) (fun _ _ _ h => h) hSt (by rfl) (by intro w' hSw; obtain ⟨y1, y2⟩ := hSw; go_simp <;> with_reducible rfl) ?_
                          simp only [Act.put, List.setIfInBounds_toArray, List.set_cons_zero, List.set_cons_succ]
                          refine wpAnyL_take (i := 10) 182 (v := .bool false) rfl rfl (by kernel_rfl) (by kernel_rfl) (by kernel_rfl) (by kernel_rfl) (by kernel_rfl) (by kernel_rfl) (fun _ _ _ h => h) hSt (by rfl) (by intro w' hSw; obtain ⟨y1, y2⟩ := hSw; go_simp <;> with_reducible rfl) ?_
                          simp only [Act.put, List.setIfInBounds_toArray, List.set_cons_zero, List.set_cons_succ]
                          refine wpAnyL_done (by kernel_rfl) ?_ _
                          have hNb : Calls Tryz.prog 16 #[.pointer (some ⟨qs, 0, none⟩), .agg #[.map (some (b')), .slice none 0 0]] wt fun r w' => r = .returned (.bool true) ∧ Below wt.heap.size wt w' := lnumbers HFt.out.pl.sa HFt.out.pl.mp (by obtain ⟨a, c, e⟩ := HFt.out.pl.row.shape; exact ⟨a, _, c, e⟩)
                          obtain ⟨_, _, _, q0, q1, _, _⟩ := HFt.out.cells
                          clear hSt
                          go_wp2_with (go_at_call 16; refine Calls.mono hNb ?_; rintro r w8 ⟨rfl, e1⟩; have HB8 : Hid (Below wt.heap.size wt w8) := e1; clear e1 hNb)
                          go_roundw
                          case rel => exact ⟨k + 1, K2, hlt, h80, by go_num, by rfl, ⟨⟨_, _, _, (HFt.out.new HB8.out).pl⟩, HSq.out.2.1, HSq.out.2.2⟩⟩
                          case measure => simp [intOf]; omega
                      · have hn8 := k8
                        as_aux_lemma =>
                          have hG := sput (n := yn) (t := ys) HX.out.pl.sa HX.out.pl.low (by omega) hsl (by have := HE.out.sp; omega)
                          rw [if_pos ho] at hG
                          go_upto_region 16 with (go_at_call 12; refine Calls.mono hG ?_; rintro r w6 ⟨rfl, e1⟩; have HX6 : Hid (PlX w qs B bm ab y w6 Xm b v (K.putK yn ys) (256 * k + 16) K.f K.near) := HX.out.call e1; clear e1 hG)
                          clear d0 d1 d2 m0 m1 g0 g1 hlk
                          obtain ⟨w7, hrun, hm7, hf7⟩ := HX6.out.pl.mp.put mtS r0 r1 ys
                          change (Instr.mapUpdate 30 (.map (some b)) (.int .i64 yn) (.string (str ys))).run Tryz.prog w6 = .ok () w7 at hrun
                          have HX7 : Hid (PlX w qs B bm ab y w7 Xm b v (K.putK yn ys) (256 * k + 16) (setO K.f yn ys) K.near) := HX6.out.upd hf7 hm7
                          obtain ⟨d0, d1, d2, m0, m1, g0, g1⟩ := HX6.out.cells
                          rw [hst0.out] at d0 d1 d2
                          simp only at d0 d1 d2
                          clear hm7 hf7
                          go_upto_region 20 with (fail)
                          clear d0 d1 d2 m0 m1 g0 g1 hrun
                          obtain ⟨d0, d1, d2, m0, m1, g0, g1⟩ := HX7.out.cells
                          rw [hst0.out] at d0 d1 d2
                          simp only at d0 d1 d2
                          have hU := HUse.out w7 Xm b v (K.putK yn ys) (256 * k + 16) ys
                          have hU := hU ⟨HX7.out.pl.sa, HX7.out.pl.row⟩ HX7.out.pl.mp (st_lenO (HX.out.pl.sa.ok.use r0 r1 hsl))
                          go_upto_region 37 with (first
                            | (refine wpList_load_row rfl 33 _ rfl bm rfl 33 #[.map (some b), v] (0, 0) _ HX7.out.pl.bx Tryz.underlying33 rfl size_model ?_)
                            | (go_at_call 8; refine Calls.mono hU ?_; rintro r w8 ⟨v7, rfl, e1, e2⟩; obtain ⟨a7, l7, c7, rfl⟩ : ∃ a l c, v7 = .slice a l c := (by obtain ⟨a, c, e⟩ := e1.shape; exact ⟨a, _, c, e⟩); have HX8 : Hid (PlX w qs B bm ab y w8 Xm b v (K.putK yn ys) (256 * k + 16) (setO K.f yn ys) K.near) := HX7.out.new e2; have HR8 : Hid (NrO w8 w.heap.size (.slice a7 l7 c7) (K.use yn ys).near) := e1.low HX7.out.pl.low; clear e1 e2 hU)
                            | (refine wpList_store_row rfl 33 _ _ rfl _ #[.map (some b), .slice a7 l7 c7] rfl rfl 33 #[.map (some b), v] HX8.out.pl.bx size_model rfl (by simp [Value.oneCell']) ?_))
                          clear d0 d1 d2 m0 m1 g0 g1
                          have HF : Hid (PlX w qs B bm ab y (w8.setRow bm #[.map (some b), .slice a7 l7 c7]) Xm b (.slice a7 l7 c7) (K.use yn ys) (256 * k + 256) (K.use yn ys).f (K.use yn ys).near) := by
                            have h := (HX8.out.setR HR8.out).mono (d := 256 * k + 256) (by omega)
                            have e1 : K.putK yn ys = K.use yn ys := by unfold St.putK; rw [if_pos ho]
                            rw [e1] at h
                            exact h
                          generalize w8.setRow bm #[.map (some b), .slice a7 l7 c7] = wF at HF ⊢
                          have HSq : Hid ((K.use yn ys).sp = K.sp + K.go yn ys ∧ (K.use yn ys).bud = bud ∧ (K.use yn ys).sp ≤ 16 * (k + 1)) := ⟨rfl, HE.out.bud, by have h1 := HE.out.sp; have h2 := St.go_le (n := yn) (t := ys) HX.out.pl.sa.ok; show K.sp + K.go yn ys ≤ _; omega⟩
                          have hsb : K.sp ≤ 16 * 80 := by have := HE.out.sp; omega
                          have hgb : K.go yn ys ≤ 16 * 81 := by have := HSq.out.1; have := HSq.out.2.2; omega
                          go_upto_region 38 with (fail)
                          have hE8 : (K.sp : Int) + ((K.go yn ys : Nat) : Int) = (((K.use yn ys).sp : Nat) : Int) := by rw [HSq.out.1]; simp
                          try simp only [Int.add_zero, Int.natCast_zero, Int.ofNat_zero] at hE8
                          try rw [hE8]
                          clear hE8 hsb hgb
                          obtain ⟨K2, hK2⟩ : ∃ K2, K.use yn ys = K2 := ⟨_, rfl⟩
                          rw [hK2] at HF HSq ⊢
                          clear hK2
                          have hsp2 : K2.sp ≤ 100000 := by have := HSq.out.2.2; omega
                          obtain ⟨T2, hT2⟩ : ∃ T2, totL K2.f K2.near = T2 := ⟨_, rfl⟩
                          have hok2 := HF.out.pl.sa.ok
                          have hby : byt (heldO K2.f K2.near) K2.near = T2 := by rw [← hT2]; exact held_tot K2.f K2.near K2.near (fun _ h => h)
                          obtain ⟨Wd, hWd⟩ : ∃ Wd, (wF).drew = Wd := ⟨_, rfl⟩
                          have bd : Below (wF).heap.size (wF) Wd := by rw [← hWd]; exact Below.drew (Below.refl _ _)
                          have HFd : Hid (PlX w qs B bm ab y Wd (Xm) (b) (.slice a7 l7 c7) K2 (256 * k + 256) K2.f K2.near) := HF.out.new bd
                          have hUd := sused HFd.out.pl.sa
                          rw [hby] at hUd
                          have HUm : Hid (∀ V, Below Wd.heap.size Wd V → Calls Tryz.prog 14 #[.agg #[.map (some (b)), .slice a7 l7 c7]] V fun r w' => r = .returned (.int .i64 T2) ∧ Below V.heap.size V w') := fun V hV => by
                            have h2 := HFd.out.new hV
                            have := mused h2.pl.mp h2.pl.row.toS (by have := hok2.few; omega) (fun x hx => by have := hok2.sup x (hok2.sub x hx); exact i6_few this.1 this.2) (st_lenO hok2)
                            rw [hT2] at this
                            exact this
                          have htb : T2 ≤ 16 * 140737488351232 := by
                            rw [← hT2]
                            refine Nat.le_trans (totL_le K2.near (fun x _ => st_lenO hok2 x)) (Nat.mul_le_mul_right _ hok2.few)
                          obtain ⟨_, _, _, q0, q1, _, _⟩ := HFd.out.cells
                          have hS : Wd.cell? ⟨bm, 0, none⟩ = some (.map (some (b))) ∧ Wd.cell? ⟨bm, 1, none⟩ = some (.slice a7 l7 c7) := ⟨q0, q1⟩
                          clear q0 q1 bd hby hT2 hok2
                          refine wp_calmD ?_
                          refine wp_region_L [] (fun W : World => W.cell? ⟨bm, 0, none⟩ = some (.map (some (b))) ∧ W.cell? ⟨bm, 1, none⟩ = some (.slice a7 l7 c7)) (by kernel_rfl) ?_
                          rw [hWd]
                          clear hWd
                          refine wpAnyL_take (i := 0) 172 (v := .pointer (some ⟨qs, 0, none⟩)) rfl rfl (by kernel_rfl) (by kernel_rfl) (by kernel_rfl) (by kernel_rfl) (by kernel_rfl) (by kernel_rfl) (fun _ _ _ h => h) hS (by rfl) (by intro w' hSw; obtain ⟨y1, y2⟩ := hSw; go_simp <;> with_reducible rfl) ?_
                          simp only [Act.put, List.setIfInBounds_toArray, List.set_cons_zero, List.set_cons_succ]
                          refine wpAnyL_take (i := 2) 174 (v := .agg #[.map (some (b)), .slice a7 l7 c7]) rfl rfl (by kernel_rfl) (by kernel_rfl) (by kernel_rfl) (by kernel_rfl) (by kernel_rfl) (by kernel_rfl) (fun _ _ _ h => h) hS (by rfl) (by intro w' hSw; obtain ⟨y1, y2⟩ := hSw; go_simp <;> with_reducible rfl) ?_
                          simp only [Act.put, List.setIfInBounds_toArray, List.set_cons_zero, List.set_cons_succ]
                          refine wpAnyL_one (i := 1) (by kernel_rfl) rfl (fun Ka hKa => ?_)
                          go_simp
                          refine Calls.mono hUd ?_
                          rintro r w5 ⟨rfl, hw5⟩
                          rw [hw5]
                          refine hKa.out _ _ (fun _ => hS) ?_
                          clear hKa Ka hw5 hUd
                          try simp only [Act.put, List.setIfInBounds_toArray, List.set_cons_zero, List.set_cons_succ]
                          have hUm := HUm.out Wd (Below.refl _ _)
                          refine wpAnyL_one (i := 3) (by kernel_rfl) rfl (fun Ka hKa => ?_)
                          go_simp
                          refine Calls.mono hUm ?_
                          rintro r wt ⟨rfl, et⟩
                          have HFt : Hid (PlX w qs B bm ab y wt (Xm) (b) (.slice a7 l7 c7) K2 (256 * k + 256) K2.f K2.near) := HFd.out.new et
                          obtain ⟨_, _, _, q0, q1, _, _⟩ := HFt.out.cells
                          have hSt : wt.cell? ⟨bm, 0, none⟩ = some (.map (some (b))) ∧ wt.cell? ⟨bm, 1, none⟩ = some (.slice a7 l7 c7) := ⟨q0, q1⟩
                          refine hKa.out _ _ (fun _ => hSt) ?_
                          clear hKa Ka et hUm hS q0 q1
                          try simp only [Act.put, List.setIfInBounds_toArray, List.set_cons_zero, List.set_cons_succ]
                          refine wpAnyL_take (i := 4) 176 (v := .bool false) rfl rfl (by kernel_rfl) (by kernel_rfl) (by kernel_rfl) (by kernel_rfl) (by kernel_rfl) (by kernel_rfl) (fun _ _ _ h => h) hSt (by rfl) (by intro w' hSw; obtain ⟨y1, y2⟩ := hSw; go_simp <;> with_reducible rfl) ?_
                          simp only [Act.put, List.setIfInBounds_toArray, List.set_cons_zero, List.set_cons_succ]
                          refine wpAnyL_take (i := 5) 177 (v := .bool false) rfl rfl (by kernel_rfl) (by kernel_rfl) (by kernel_rfl) (by kernel_rfl) (by kernel_rfl) (by kernel_rfl) (fun _ _ _ h => h) hSt (by rfl) (by intro w' hSw; obtain ⟨y1, y2⟩ := hSw; go_simp <;> with_reducible rfl) ?_
                          simp only [Act.put, List.setIfInBounds_toArray, List.set_cons_zero, List.set_cons_succ]
                          refine wpAnyL_take (i := 6) 178 (v := .pointer (some ⟨qs, 0, none⟩)) rfl rfl (by kernel_rfl) (by kernel_rfl) (by kernel_rfl) (by kernel_rfl) (by kernel_rfl) (by kernel_rfl) (fun _ _ _ h => h) hSt (by rfl) (by intro w' hSw; obtain ⟨y1, y2⟩ := hSw; go_simp <;> with_reducible rfl) ?_
                          simp only [Act.put, List.setIfInBounds_toArray, List.set_cons_zero, List.set_cons_succ]
                          refine wpAnyL_take (i := 8) 180 (v := .int .i64 K2.sp) rfl rfl (by kernel_rfl) (by kernel_rfl) (by kernel_rfl) (by kernel_rfl) (by kernel_rfl) (by kernel_rfl) (fun _ _ _ h => h) hSt (by rfl) (by intro w' hSw; obtain ⟨y1, y2⟩ := hSw; go_simp <;> with_reducible rfl) ?_
                          simp only [Act.put, List.setIfInBounds_toArray, List.set_cons_zero, List.set_cons_succ]
                          have hSp := sspills HFt.out.pl.sa
                          refine wpAnyL_one (i := 7) (by kernel_rfl) rfl (fun Ka hKa => ?_)
                          go_simp
                          refine Calls.mono hSp ?_
                          rintro r w5 ⟨rfl, hw5⟩
                          rw [hw5]
                          refine hKa.out _ _ (fun _ => hSt) ?_
                          clear hKa Ka hw5 hSp
                          try simp only [Act.put, List.setIfInBounds_toArray, List.set_cons_zero, List.set_cons_succ]
                          refine wpAnyL_take (i := 9) 181 (v := .bool false) rfl rfl (by kernel_rfl) (by kernel_rfl) (by kernel_rfl) (by kernel_rfl) (by kernel_rfl) (by kernel_rfl) (fun _ _ _ h => h) hSt (by rfl) (by intro w' hSw; obtain ⟨y1, y2⟩ := hSw; go_simp <;> with_reducible rfl) ?_
                          simp only [Act.put, List.setIfInBounds_toArray, List.set_cons_zero, List.set_cons_succ]
                          refine wpAnyL_take (i := 10) 182 (v := .bool false) rfl rfl (by kernel_rfl) (by kernel_rfl) (by kernel_rfl) (by kernel_rfl) (by kernel_rfl) (by kernel_rfl) (fun _ _ _ h => h) hSt (by rfl) (by intro w' hSw; obtain ⟨y1, y2⟩ := hSw; go_simp <;> with_reducible rfl) ?_
                          simp only [Act.put, List.setIfInBounds_toArray, List.set_cons_zero, List.set_cons_succ]
                          refine wpAnyL_done (by kernel_rfl) ?_ _
                          have hNb : Calls Tryz.prog 16 #[.pointer (some ⟨qs, 0, none⟩), .agg #[.map (some (b)), .slice a7 l7 c7]] wt fun r w' => r = .returned (.bool true) ∧ Below wt.heap.size wt w' := lnumbers HFt.out.pl.sa HFt.out.pl.mp (by obtain ⟨a, c, e⟩ := HFt.out.pl.row.shape; exact ⟨a, _, c, e⟩)
                          obtain ⟨_, _, _, q0, q1, _, _⟩ := HFt.out.cells
                          clear hSt
                          go_wp2_with (go_at_call 16; refine Calls.mono hNb ?_; rintro r w8 ⟨rfl, e1⟩; have HB8 : Hid (Below wt.heap.size wt w8) := e1; clear e1 hNb)
                          go_roundw
                          case rel => exact ⟨k + 1, K2, hlt, h80, by go_num, by rfl, ⟨⟨_, _, _, (HFt.out.new HB8.out).pl⟩, HSq.out.2.1, HSq.out.2.2⟩⟩
                          case measure => simp [intOf]; omega
            | none =>
              rw [hf] at hlk
              simp only [Option.getD_none, Option.isSome_none] at hlk
              go_upto_region 21 with (fail)
              by_cases k4 : yk = 4
              · subst k4
                as_aux_lemma =>
                  have hG := sget (n := yn) HX.out.pl.sa HX.out.pl.low (by omega) hin (by have := HE.out.sp; omega)
                  rw [hf] at hG
                  change Calls _ _ _ _ (fun r w' => r = .returned (.tuple #[.string (str []), .int .i64 2]) ∧ _) at hG
                  have hst : (str []).toList = [] := str_toList _
                  go_upto_region 25 with (go_at_call 7; refine Calls.mono hG ?_; rintro r w6 ⟨rfl, e1⟩; have HX6 : Hid (PlX w qs B bm ab y w6 Xm b v (K.getK yn) (256 * k + 16) K.f K.near) := HX.out.call e1; clear e1 hG)
                  clear d0 d1 d2 m0 m1 g0 g1 hlk
                  have HF : Hid (PlX w qs B bm ab y w6 Xm b v K (256 * k + 256) K.f K.near) := by
                    have h := HX6.out.mono (d := 256 * k + 256) (by omega)
                    have e1 : K.getK yn = K := by unfold St.getK; rw [hf]
                    rw [e1] at h
                    exact h
                  have HSq : Hid ((K).sp = K.sp + 0 ∧ (K).bud = bud ∧ (K).sp ≤ 16 * (k + 1)) := ⟨rfl, HE.out.bud, by have h1 := HE.out.sp; omega⟩
                  have hsb : K.sp ≤ 16 * 80 := by have := HE.out.sp; omega
                  have hgb : 0 ≤ 16 * 81 := by have := HSq.out.1; have := HSq.out.2.2; omega
                  go_upto_region 38 with (fail)
                  have hE8 : (K.sp : Int) + ((0 : Nat) : Int) = (((K).sp : Nat) : Int) := by rw [HSq.out.1]; simp
                  try simp only [Int.add_zero, Int.natCast_zero, Int.ofNat_zero] at hE8
                  try rw [hE8]
                  clear hE8 hsb hgb
                  obtain ⟨K2, hK2⟩ : ∃ K2, K = K2 := ⟨_, rfl⟩
                  rw [hK2] at HF HSq ⊢
                  clear hK2
                  have hsp2 : K2.sp ≤ 100000 := by have := HSq.out.2.2; omega
                  obtain ⟨T2, hT2⟩ : ∃ T2, totL K2.f K2.near = T2 := ⟨_, rfl⟩
                  have hok2 := HF.out.pl.sa.ok
                  have hby : byt (heldO K2.f K2.near) K2.near = T2 := by rw [← hT2]; exact held_tot K2.f K2.near K2.near (fun _ h => h)
                  obtain ⟨Wd, hWd⟩ : ∃ Wd, (w6).drew = Wd := ⟨_, rfl⟩
                  have bd : Below (w6).heap.size (w6) Wd := by rw [← hWd]; exact Below.drew (Below.refl _ _)
                  have HFd : Hid (PlX w qs B bm ab y Wd (Xm) (b) (v) K2 (256 * k + 256) K2.f K2.near) := HF.out.new bd
                  have hUd := sused HFd.out.pl.sa
                  rw [hby] at hUd
                  have HUm : Hid (∀ V, Below Wd.heap.size Wd V → Calls Tryz.prog 14 #[.agg #[.map (some (b)), v]] V fun r w' => r = .returned (.int .i64 T2) ∧ Below V.heap.size V w') := fun V hV => by
                    have h2 := HFd.out.new hV
                    have := mused h2.pl.mp h2.pl.row.toS (by have := hok2.few; omega) (fun x hx => by have := hok2.sup x (hok2.sub x hx); exact i6_few this.1 this.2) (st_lenO hok2)
                    rw [hT2] at this
                    exact this
                  have htb : T2 ≤ 16 * 140737488351232 := by
                    rw [← hT2]
                    refine Nat.le_trans (totL_le K2.near (fun x _ => st_lenO hok2 x)) (Nat.mul_le_mul_right _ hok2.few)
                  obtain ⟨_, _, _, q0, q1, _, _⟩ := HFd.out.cells
                  have hS : Wd.cell? ⟨bm, 0, none⟩ = some (.map (some (b))) ∧ Wd.cell? ⟨bm, 1, none⟩ = some (v) := ⟨q0, q1⟩
                  clear q0 q1 bd hby hT2 hok2
                  refine wp_calmD ?_
                  refine wp_region_L [] (fun W : World => W.cell? ⟨bm, 0, none⟩ = some (.map (some (b))) ∧ W.cell? ⟨bm, 1, none⟩ = some (v)) (by kernel_rfl) ?_
                  rw [hWd]
                  clear hWd
                  refine wpAnyL_take (i := 0) 172 (v := .pointer (some ⟨qs, 0, none⟩)) rfl rfl (by kernel_rfl) (by kernel_rfl) (by kernel_rfl) (by kernel_rfl) (by kernel_rfl) (by kernel_rfl) (fun _ _ _ h => h) hS (by rfl) (by intro w' hSw; obtain ⟨y1, y2⟩ := hSw; go_simp <;> with_reducible rfl) ?_
                  simp only [Act.put, List.setIfInBounds_toArray, List.set_cons_zero, List.set_cons_succ]
                  refine wpAnyL_take (i := 2) 174 (v := .agg #[.map (some (b)), v]) rfl rfl (by kernel_rfl) (by kernel_rfl) (by kernel_rfl) (by kernel_rfl) (by kernel_rfl) (by kernel_rfl) (fun _ _ _ h => h) hS (by rfl) (by intro w' hSw; obtain ⟨y1, y2⟩ := hSw; go_simp <;> with_reducible rfl) ?_
                  simp only [Act.put, List.setIfInBounds_toArray, List.set_cons_zero, List.set_cons_succ]
                  refine wpAnyL_one (i := 1) (by kernel_rfl) rfl (fun Ka hKa => ?_)
                  go_simp
                  refine Calls.mono hUd ?_
                  rintro r w5 ⟨rfl, hw5⟩
                  rw [hw5]
                  refine hKa.out _ _ (fun _ => hS) ?_
                  clear hKa Ka hw5 hUd
                  try simp only [Act.put, List.setIfInBounds_toArray, List.set_cons_zero, List.set_cons_succ]
                  have hUm := HUm.out Wd (Below.refl _ _)
                  refine wpAnyL_one (i := 3) (by kernel_rfl) rfl (fun Ka hKa => ?_)
                  go_simp
                  refine Calls.mono hUm ?_
                  rintro r wt ⟨rfl, et⟩
                  have HFt : Hid (PlX w qs B bm ab y wt (Xm) (b) (v) K2 (256 * k + 256) K2.f K2.near) := HFd.out.new et
                  obtain ⟨_, _, _, q0, q1, _, _⟩ := HFt.out.cells
                  have hSt : wt.cell? ⟨bm, 0, none⟩ = some (.map (some (b))) ∧ wt.cell? ⟨bm, 1, none⟩ = some (v) := ⟨q0, q1⟩
                  refine hKa.out _ _ (fun _ => hSt) ?_
                  clear hKa Ka et hUm hS q0 q1
                  try simp only [Act.put, List.setIfInBounds_toArray, List.set_cons_zero, List.set_cons_succ]
                  refine wpAnyL_take (i := 4) 176 (v := .bool false) rfl rfl (by kernel_rfl) (by kernel_rfl) (by kernel_rfl) (by kernel_rfl) (by kernel_rfl) (by kernel_rfl) (fun _ _ _ h => h) hSt (by rfl) (by intro w' hSw; obtain ⟨y1, y2⟩ := hSw; go_simp <;> with_reducible rfl) ?_
                  simp only [Act.put, List.setIfInBounds_toArray, List.set_cons_zero, List.set_cons_succ]
                  refine wpAnyL_take (i := 5) 177 (v := .bool false) rfl rfl (by kernel_rfl) (by kernel_rfl) (by kernel_rfl) (by kernel_rfl) (by kernel_rfl) (by kernel_rfl) (fun _ _ _ h => h) hSt (by rfl) (by intro w' hSw; obtain ⟨y1, y2⟩ := hSw; go_simp <;> with_reducible rfl) ?_
                  simp only [Act.put, List.setIfInBounds_toArray, List.set_cons_zero, List.set_cons_succ]
                  refine wpAnyL_take (i := 6) 178 (v := .pointer (some ⟨qs, 0, none⟩)) rfl rfl (by kernel_rfl) (by kernel_rfl) (by kernel_rfl) (by kernel_rfl) (by kernel_rfl) (by kernel_rfl) (fun _ _ _ h => h) hSt (by rfl) (by intro w' hSw; obtain ⟨y1, y2⟩ := hSw; go_simp <;> with_reducible rfl) ?_
                  simp only [Act.put, List.setIfInBounds_toArray, List.set_cons_zero, List.set_cons_succ]
                  refine wpAnyL_take (i := 8) 180 (v := .int .i64 K2.sp) rfl rfl (by kernel_rfl) (by kernel_rfl) (by kernel_rfl) (by kernel_rfl) (by kernel_rfl) (by kernel_rfl) (fun _ _ _ h => h) hSt (by rfl) (by intro w' hSw; obtain ⟨y1, y2⟩ := hSw; go_simp <;> with_reducible rfl) ?_
                  simp only [Act.put, List.setIfInBounds_toArray, List.set_cons_zero, List.set_cons_succ]
                  have hSp := sspills HFt.out.pl.sa
                  refine wpAnyL_one (i := 7) (by kernel_rfl) rfl (fun Ka hKa => ?_)
                  go_simp
                  refine Calls.mono hSp ?_
                  rintro r w5 ⟨rfl, hw5⟩
                  rw [hw5]
                  refine hKa.out _ _ (fun _ => hSt) ?_
                  clear hKa Ka hw5 hSp
                  try simp only [Act.put, List.setIfInBounds_toArray, List.set_cons_zero, List.set_cons_succ]
                  refine wpAnyL_take (i := 9) 181 (v := .bool false) rfl rfl (by kernel_rfl) (by kernel_rfl) (by kernel_rfl) (by kernel_rfl) (by kernel_rfl) (by kernel_rfl) (fun _ _ _ h => h) hSt (by rfl) (by intro w' hSw; obtain ⟨y1, y2⟩ := hSw; go_simp <;> with_reducible rfl) ?_
                  simp only [Act.put, List.setIfInBounds_toArray, List.set_cons_zero, List.set_cons_succ]
                  refine wpAnyL_take (i := 10) 182 (v := .bool false) rfl rfl (by kernel_rfl) (by kernel_rfl) (by kernel_rfl) (by kernel_rfl) (by kernel_rfl) (by kernel_rfl) (fun _ _ _ h => h) hSt (by rfl) (by intro w' hSw; obtain ⟨y1, y2⟩ := hSw; go_simp <;> with_reducible rfl) ?_
                  simp only [Act.put, List.setIfInBounds_toArray, List.set_cons_zero, List.set_cons_succ]
                  refine wpAnyL_done (by kernel_rfl) ?_ _
                  have hNb : Calls Tryz.prog 16 #[.pointer (some ⟨qs, 0, none⟩), .agg #[.map (some (b)), v]] wt fun r w' => r = .returned (.bool true) ∧ Below wt.heap.size wt w' := lnumbers HFt.out.pl.sa HFt.out.pl.mp (by obtain ⟨a, c, e⟩ := HFt.out.pl.row.shape; exact ⟨a, _, c, e⟩)
                  obtain ⟨_, _, _, q0, q1, _, _⟩ := HFt.out.cells
                  clear hSt
                  go_wp2_with (go_at_call 16; refine Calls.mono hNb ?_; rintro r w8 ⟨rfl, e1⟩; have HB8 : Hid (Below wt.heap.size wt w8) := e1; clear e1 hNb)
                  go_roundw
                  case rel => exact ⟨k + 1, K2, hlt, h80, by go_num, by rfl, ⟨⟨_, _, _, (HFt.out.new HB8.out).pl⟩, HSq.out.2.1, HSq.out.2.2⟩⟩
                  case measure => simp [intOf]; omega
              · have hn4 := k4
                by_cases k5 : yk = 5
                · subst k5
                  as_aux_lemma =>
                    have hG := sget (n := yn) HX.out.pl.sa HX.out.pl.low (by omega) hin (by have := HE.out.sp; omega)
                    rw [hf] at hG
                    change Calls _ _ _ _ (fun r w' => r = .returned (.tuple #[.string (str []), .int .i64 2]) ∧ _) at hG
                    have hst : (str []).toList = [] := str_toList _
                    go_upto_region 25 with (go_at_call 7; refine Calls.mono hG ?_; rintro r w6 ⟨rfl, e1⟩; have HX6 : Hid (PlX w qs B bm ab y w6 Xm b v (K.getK yn) (256 * k + 16) K.f K.near) := HX.out.call e1; clear e1 hG)
                    clear d0 d1 d2 m0 m1 g0 g1 hlk
                    have HF : Hid (PlX w qs B bm ab y w6 Xm b v K (256 * k + 256) K.f K.near) := by
                      have h := HX6.out.mono (d := 256 * k + 256) (by omega)
                      have e1 : K.getK yn = K := by unfold St.getK; rw [hf]
                      rw [e1] at h
                      exact h
                    have HSq : Hid ((K).sp = K.sp + 0 ∧ (K).bud = bud ∧ (K).sp ≤ 16 * (k + 1)) := ⟨rfl, HE.out.bud, by have h1 := HE.out.sp; omega⟩
                    have hsb : K.sp ≤ 16 * 80 := by have := HE.out.sp; omega
                    have hgb : 0 ≤ 16 * 81 := by have := HSq.out.1; have := HSq.out.2.2; omega
                    go_upto_region 38 with (fail)
                    have hE8 : (K.sp : Int) + ((0 : Nat) : Int) = (((K).sp : Nat) : Int) := by rw [HSq.out.1]; simp
                    try simp only [Int.add_zero, Int.natCast_zero, Int.ofNat_zero] at hE8
                    try rw [hE8]
                    clear hE8 hsb hgb
                    obtain ⟨K2, hK2⟩ : ∃ K2, K = K2 := ⟨_, rfl⟩
                    rw [hK2] at HF HSq ⊢
                    clear hK2
                    have hsp2 : K2.sp ≤ 100000 := by have := HSq.out.2.2; omega
                    obtain ⟨T2, hT2⟩ : ∃ T2, totL K2.f K2.near = T2 := ⟨_, rfl⟩
                    have hok2 := HF.out.pl.sa.ok
                    have hby : byt (heldO K2.f K2.near) K2.near = T2 := by rw [← hT2]; exact held_tot K2.f K2.near K2.near (fun _ h => h)
                    obtain ⟨Wd, hWd⟩ : ∃ Wd, (w6).drew = Wd := ⟨_, rfl⟩
                    have bd : Below (w6).heap.size (w6) Wd := by rw [← hWd]; exact Below.drew (Below.refl _ _)
                    have HFd : Hid (PlX w qs B bm ab y Wd (Xm) (b) (v) K2 (256 * k + 256) K2.f K2.near) := HF.out.new bd
                    have hUd := sused HFd.out.pl.sa
                    rw [hby] at hUd
                    have HUm : Hid (∀ V, Below Wd.heap.size Wd V → Calls Tryz.prog 14 #[.agg #[.map (some (b)), v]] V fun r w' => r = .returned (.int .i64 T2) ∧ Below V.heap.size V w') := fun V hV => by
                      have h2 := HFd.out.new hV
                      have := mused h2.pl.mp h2.pl.row.toS (by have := hok2.few; omega) (fun x hx => by have := hok2.sup x (hok2.sub x hx); exact i6_few this.1 this.2) (st_lenO hok2)
                      rw [hT2] at this
                      exact this
                    have htb : T2 ≤ 16 * 140737488351232 := by
                      rw [← hT2]
                      refine Nat.le_trans (totL_le K2.near (fun x _ => st_lenO hok2 x)) (Nat.mul_le_mul_right _ hok2.few)
                    obtain ⟨_, _, _, q0, q1, _, _⟩ := HFd.out.cells
                    have hS : Wd.cell? ⟨bm, 0, none⟩ = some (.map (some (b))) ∧ Wd.cell? ⟨bm, 1, none⟩ = some (v) := ⟨q0, q1⟩
                    clear q0 q1 bd hby hT2 hok2
                    refine wp_calmD ?_
                    refine wp_region_L [] (fun W : World => W.cell? ⟨bm, 0, none⟩ = some (.map (some (b))) ∧ W.cell? ⟨bm, 1, none⟩ = some (v)) (by kernel_rfl) ?_
                    rw [hWd]
                    clear hWd
                    refine wpAnyL_take (i := 0) 172 (v := .pointer (some ⟨qs, 0, none⟩)) rfl rfl (by kernel_rfl) (by kernel_rfl) (by kernel_rfl) (by kernel_rfl) (by kernel_rfl) (by kernel_rfl) (fun _ _ _ h => h) hS (by rfl) (by intro w' hSw; obtain ⟨y1, y2⟩ := hSw; go_simp <;> with_reducible rfl) ?_
                    simp only [Act.put, List.setIfInBounds_toArray, List.set_cons_zero, List.set_cons_succ]
                    refine wpAnyL_take (i := 2) 174 (v := .agg #[.map (some (b)), v]) rfl rfl (by kernel_rfl) (by kernel_rfl) (by kernel_rfl) (by kernel_rfl) (by kernel_rfl) (by kernel_rfl) (fun _ _ _ h => h) hS (by rfl) (by intro w' hSw; obtain ⟨y1, y2⟩ := hSw; go_simp <;> with_reducible rfl) ?_
                    simp only [Act.put, List.setIfInBounds_toArray, List.set_cons_zero, List.set_cons_succ]
                    refine wpAnyL_one (i := 1) (by kernel_rfl) rfl (fun Ka hKa => ?_)
                    go_simp
                    refine Calls.mono hUd ?_
                    rintro r w5 ⟨rfl, hw5⟩
                    rw [hw5]
                    refine hKa.out _ _ (fun _ => hS) ?_
                    clear hKa Ka hw5 hUd
                    try simp only [Act.put, List.setIfInBounds_toArray, List.set_cons_zero, List.set_cons_succ]
                    have hUm := HUm.out Wd (Below.refl _ _)
                    refine wpAnyL_one (i := 3) (by kernel_rfl) rfl (fun Ka hKa => ?_)
                    go_simp
                    refine Calls.mono hUm ?_
                    rintro r wt ⟨rfl, et⟩
                    have HFt : Hid (PlX w qs B bm ab y wt (Xm) (b) (v) K2 (256 * k + 256) K2.f K2.near) := HFd.out.new et
                    obtain ⟨_, _, _, q0, q1, _, _⟩ := HFt.out.cells
                    have hSt : wt.cell? ⟨bm, 0, none⟩ = some (.map (some (b))) ∧ wt.cell? ⟨bm, 1, none⟩ = some (v) := ⟨q0, q1⟩
                    refine hKa.out _ _ (fun _ => hSt) ?_
                    clear hKa Ka et hUm hS q0 q1
                    try simp only [Act.put, List.setIfInBounds_toArray, List.set_cons_zero, List.set_cons_succ]
                    refine wpAnyL_take (i := 4) 176 (v := .bool false) rfl rfl (by kernel_rfl) (by kernel_rfl) (by kernel_rfl) (by kernel_rfl) (by kernel_rfl) (by kernel_rfl) (fun _ _ _ h => h) hSt (by rfl) (by intro w' hSw; obtain ⟨y1, y2⟩ := hSw; go_simp <;> with_reducible rfl) ?_
                    simp only [Act.put, List.setIfInBounds_toArray, List.set_cons_zero, List.set_cons_succ]
                    refine wpAnyL_take (i := 5) 177 (v := .bool false) rfl rfl (by kernel_rfl) (by kernel_rfl) (by kernel_rfl) (by kernel_rfl) (by kernel_rfl) (by kernel_rfl) (fun _ _ _ h => h) hSt (by rfl) (by intro w' hSw; obtain ⟨y1, y2⟩ := hSw; go_simp <;> with_reducible rfl) ?_
                    simp only [Act.put, List.setIfInBounds_toArray, List.set_cons_zero, List.set_cons_succ]
                    refine wpAnyL_take (i := 6) 178 (v := .pointer (some ⟨qs, 0, none⟩)) rfl rfl (by kernel_rfl) (by kernel_rfl) (by kernel_rfl) (by kernel_rfl) (by kernel_rfl) (by kernel_rfl) (fun _ _ _ h => h) hSt (by rfl) (by intro w' hSw; obtain ⟨y1, y2⟩ := hSw; go_simp <;> with_reducible rfl) ?_
                    simp only [Act.put, List.setIfInBounds_toArray, List.set_cons_zero, List.set_cons_succ]
                    refine wpAnyL_take (i := 8) 180 (v := .int .i64 K2.sp) rfl rfl (by kernel_rfl) (by kernel_rfl) (by kernel_rfl) (by kernel_rfl) (by kernel_rfl) (by kernel_rfl) (fun _ _ _ h => h) hSt (by rfl) (by intro w' hSw; obtain ⟨y1, y2⟩ := hSw; go_simp <;> with_reducible rfl) ?_
                    simp only [Act.put, List.setIfInBounds_toArray, List.set_cons_zero, List.set_cons_succ]
                    have hSp := sspills HFt.out.pl.sa
                    refine wpAnyL_one (i := 7) (by kernel_rfl) rfl (fun Ka hKa => ?_)
                    go_simp
                    refine Calls.mono hSp ?_
                    rintro r w5 ⟨rfl, hw5⟩
                    rw [hw5]
                    refine hKa.out _ _ (fun _ => hSt) ?_
                    clear hKa Ka hw5 hSp
                    try simp only [Act.put, List.setIfInBounds_toArray, List.set_cons_zero, List.set_cons_succ]
                    refine wpAnyL_take (i := 9) 181 (v := .bool false) rfl rfl (by kernel_rfl) (by kernel_rfl) (by kernel_rfl) (by kernel_rfl) (by kernel_rfl) (by kernel_rfl) (fun _ _ _ h => h) hSt (by rfl) (by intro w' hSw; obtain ⟨y1, y2⟩ := hSw; go_simp <;> with_reducible rfl) ?_
                    simp only [Act.put, List.setIfInBounds_toArray, List.set_cons_zero, List.set_cons_succ]
                    refine wpAnyL_take (i := 10) 182 (v := .bool false) rfl rfl (by kernel_rfl) (by kernel_rfl) (by kernel_rfl) (by kernel_rfl) (by kernel_rfl) (by kernel_rfl) (fun _ _ _ h => h) hSt (by rfl) (by intro w' hSw; obtain ⟨y1, y2⟩ := hSw; go_simp <;> with_reducible rfl) ?_
                    simp only [Act.put, List.setIfInBounds_toArray, List.set_cons_zero, List.set_cons_succ]
                    refine wpAnyL_done (by kernel_rfl) ?_ _
                    have hNb : Calls Tryz.prog 16 #[.pointer (some ⟨qs, 0, none⟩), .agg #[.map (some (b)), v]] wt fun r w' => r = .returned (.bool true) ∧ Below wt.heap.size wt w' := lnumbers HFt.out.pl.sa HFt.out.pl.mp (by obtain ⟨a, c, e⟩ := HFt.out.pl.row.shape; exact ⟨a, _, c, e⟩)
                    obtain ⟨_, _, _, q0, q1, _, _⟩ := HFt.out.cells
                    clear hSt
                    go_wp2_with (go_at_call 16; refine Calls.mono hNb ?_; rintro r w8 ⟨rfl, e1⟩; have HB8 : Hid (Below wt.heap.size wt w8) := e1; clear e1 hNb)
                    go_roundw
                    case rel => exact ⟨k + 1, K2, hlt, h80, by go_num, by rfl, ⟨⟨_, _, _, (HFt.out.new HB8.out).pl⟩, HSq.out.2.1, HSq.out.2.2⟩⟩
                    case measure => simp [intOf]; omega
                · have hn5 := k5
                  by_cases k6 : yk = 6
                  · subst k6
                    as_aux_lemma =>
                      have hG := sget (n := yn) HX.out.pl.sa HX.out.pl.low (by omega) hin (by have := HE.out.sp; omega)
                      rw [hf] at hG
                      change Calls _ _ _ _ (fun r w' => r = .returned (.tuple #[.string (str []), .int .i64 2]) ∧ _) at hG
                      have hst : (str []).toList = [] := str_toList _
                      go_upto_region 25 with (go_at_call 7; refine Calls.mono hG ?_; rintro r w6 ⟨rfl, e1⟩; have HX6 : Hid (PlX w qs B bm ab y w6 Xm b v (K.getK yn) (256 * k + 16) K.f K.near) := HX.out.call e1; clear e1 hG)
                      clear d0 d1 d2 m0 m1 g0 g1 hlk
                      have HF : Hid (PlX w qs B bm ab y w6 Xm b v K (256 * k + 256) K.f K.near) := by
                        have h := HX6.out.mono (d := 256 * k + 256) (by omega)
                        have e1 : K.getK yn = K := by unfold St.getK; rw [hf]
                        rw [e1] at h
                        exact h
                      have HSq : Hid ((K).sp = K.sp + 0 ∧ (K).bud = bud ∧ (K).sp ≤ 16 * (k + 1)) := ⟨rfl, HE.out.bud, by have h1 := HE.out.sp; omega⟩
                      have hsb : K.sp ≤ 16 * 80 := by have := HE.out.sp; omega
                      have hgb : 0 ≤ 16 * 81 := by have := HSq.out.1; have := HSq.out.2.2; omega
                      go_upto_region 38 with (fail)
                      have hE8 : (K.sp : Int) + ((0 : Nat) : Int) = (((K).sp : Nat) : Int) := by rw [HSq.out.1]; simp
                      try simp only [Int.add_zero, Int.natCast_zero, Int.ofNat_zero] at hE8
                      try rw [hE8]
                      clear hE8 hsb hgb
                      obtain ⟨K2, hK2⟩ : ∃ K2, K = K2 := ⟨_, rfl⟩
                      rw [hK2] at HF HSq ⊢
                      clear hK2
                      have hsp2 : K2.sp ≤ 100000 := by have := HSq.out.2.2; omega
                      obtain ⟨T2, hT2⟩ : ∃ T2, totL K2.f K2.near = T2 := ⟨_, rfl⟩
                      have hok2 := HF.out.pl.sa.ok
                      have hby : byt (heldO K2.f K2.near) K2.near = T2 := by rw [← hT2]; exact held_tot K2.f K2.near K2.near (fun _ h => h)
                      obtain ⟨Wd, hWd⟩ : ∃ Wd, (w6).drew = Wd := ⟨_, rfl⟩
                      have bd : Below (w6).heap.size (w6) Wd := by rw [← hWd]; exact Below.drew (Below.refl _ _)
                      have HFd : Hid (PlX w qs B bm ab y Wd (Xm) (b) (v) K2 (256 * k + 256) K2.f K2.near) := HF.out.new bd
                      have hUd := sused HFd.out.pl.sa
                      rw [hby] at hUd
                      have HUm : Hid (∀ V, Below Wd.heap.size Wd V → Calls Tryz.prog 14 #[.agg #[.map (some (b)), v]] V fun r w' => r = .returned (.int .i64 T2) ∧ Below V.heap.size V w') := fun V hV => by
                        have h2 := HFd.out.new hV
                        have := mused h2.pl.mp h2.pl.row.toS (by have := hok2.few; omega) (fun x hx => by have := hok2.sup x (hok2.sub x hx); exact i6_few this.1 this.2) (st_lenO hok2)
                        rw [hT2] at this
                        exact this
                      have htb : T2 ≤ 16 * 140737488351232 := by
                        rw [← hT2]
                        refine Nat.le_trans (totL_le K2.near (fun x _ => st_lenO hok2 x)) (Nat.mul_le_mul_right _ hok2.few)
                      obtain ⟨_, _, _, q0, q1, _, _⟩ := HFd.out.cells
                      have hS : Wd.cell? ⟨bm, 0, none⟩ = some (.map (some (b))) ∧ Wd.cell? ⟨bm, 1, none⟩ = some (v) := ⟨q0, q1⟩
                      clear q0 q1 bd hby hT2 hok2
                      refine wp_calmD ?_
                      refine wp_region_L [] (fun W : World => W.cell? ⟨bm, 0, none⟩ = some (.map (some (b))) ∧ W.cell? ⟨bm, 1, none⟩ = some (v)) (by kernel_rfl) ?_
                      rw [hWd]
                      clear hWd
                      refine wpAnyL_take (i := 0) 172 (v := .pointer (some ⟨qs, 0, none⟩)) rfl rfl (by kernel_rfl) (by kernel_rfl) (by kernel_rfl) (by kernel_rfl) (by kernel_rfl) (by kernel_rfl) (fun _ _ _ h => h) hS (by rfl) (by intro w' hSw; obtain ⟨y1, y2⟩ := hSw; go_simp <;> with_reducible rfl) ?_
                      simp only [Act.put, List.setIfInBounds_toArray, List.set_cons_zero, List.set_cons_succ]
                      refine wpAnyL_take (i := 2) 174 (v := .agg #[.map (some (b)), v]) rfl rfl (by kernel_rfl) (by kernel_rfl) (by kernel_rfl) (by kernel_rfl) (by kernel_rfl) (by kernel_rfl) (fun _ _ _ h => h) hS (by rfl) (by intro w' hSw; obtain ⟨y1, y2⟩ := hSw; go_simp <;> with_reducible rfl) ?_
                      simp only [Act.put, List.setIfInBounds_toArray, List.set_cons_zero, List.set_cons_succ]
                      refine wpAnyL_one (i := 1) (by kernel_rfl) rfl (fun Ka hKa => ?_)
                      go_simp
                      refine Calls.mono hUd ?_
                      rintro r w5 ⟨rfl, hw5⟩
                      rw [hw5]
                      refine hKa.out _ _ (fun _ => hS) ?_
                      clear hKa Ka hw5 hUd
                      try simp only [Act.put, List.setIfInBounds_toArray, List.set_cons_zero, List.set_cons_succ]
                      have hUm := HUm.out Wd (Below.refl _ _)
                      refine wpAnyL_one (i := 3) (by kernel_rfl) rfl (fun Ka hKa => ?_)
                      go_simp
                      refine Calls.mono hUm ?_
                      rintro r wt ⟨rfl, et⟩
                      have HFt : Hid (PlX w qs B bm ab y wt (Xm) (b) (v) K2 (256 * k + 256) K2.f K2.near) := HFd.out.new et
                      obtain ⟨_, _, _, q0, q1, _, _⟩ := HFt.out.cells
                      have hSt : wt.cell? ⟨bm, 0, none⟩ = some (.map (some (b))) ∧ wt.cell? ⟨bm, 1, none⟩ = some (v) := ⟨q0, q1⟩
                      refine hKa.out _ _ (fun _ => hSt) ?_
                      clear hKa Ka et hUm hS q0 q1
                      try simp only [Act.put, List.setIfInBounds_toArray, List.set_cons_zero, List.set_cons_succ]
                      refine wpAnyL_take (i := 4) 176 (v := .bool false) rfl rfl (by kernel_rfl) (by kernel_rfl) (by kernel_rfl) (by kernel_rfl) (by kernel_rfl) (by kernel_rfl) (fun _ _ _ h => h) hSt (by rfl) (by intro w' hSw; obtain ⟨y1, y2⟩ := hSw; go_simp <;> with_reducible rfl) ?_
                      simp only [Act.put, List.setIfInBounds_toArray, List.set_cons_zero, List.set_cons_succ]
                      refine wpAnyL_take (i := 5) 177 (v := .bool false) rfl rfl (by kernel_rfl) (by kernel_rfl) (by kernel_rfl) (by kernel_rfl) (by kernel_rfl) (by kernel_rfl) (fun _ _ _ h => h) hSt (by rfl) (by intro w' hSw; obtain ⟨y1, y2⟩ := hSw; go_simp <;> with_reducible rfl) ?_
                      simp only [Act.put, List.setIfInBounds_toArray, List.set_cons_zero, List.set_cons_succ]
                      refine wpAnyL_take (i := 6) 178 (v := .pointer (some ⟨qs, 0, none⟩)) rfl rfl (by kernel_rfl) (by kernel_rfl) (by kernel_rfl) (by kernel_rfl) (by kernel_rfl) (by kernel_rfl) (fun _ _ _ h => h) hSt (by rfl) (by intro w' hSw; obtain ⟨y1, y2⟩ := hSw; go_simp <;> with_reducible rfl) ?_
                      simp only [Act.put, List.setIfInBounds_toArray, List.set_cons_zero, List.set_cons_succ]
                      refine wpAnyL_take (i := 8) 180 (v := .int .i64 K2.sp) rfl rfl (by kernel_rfl) (by kernel_rfl) (by kernel_rfl) (by kernel_rfl) (by kernel_rfl) (by kernel_rfl) (fun _ _ _ h => h) hSt (by rfl) (by intro w' hSw; obtain ⟨y1, y2⟩ := hSw; go_simp <;> with_reducible rfl) ?_
                      simp only [Act.put, List.setIfInBounds_toArray, List.set_cons_zero, List.set_cons_succ]
                      have hSp := sspills HFt.out.pl.sa
                      refine wpAnyL_one (i := 7) (by kernel_rfl) rfl (fun Ka hKa => ?_)
                      go_simp
                      refine Calls.mono hSp ?_
                      rintro r w5 ⟨rfl, hw5⟩
                      rw [hw5]
                      refine hKa.out _ _ (fun _ => hSt) ?_
                      clear hKa Ka hw5 hSp
                      try simp only [Act.put, List.setIfInBounds_toArray, List.set_cons_zero, List.set_cons_succ]
                      refine wpAnyL_take (i := 9) 181 (v := .bool false) rfl rfl (by kernel_rfl) (by kernel_rfl) (by kernel_rfl) (by kernel_rfl) (by kernel_rfl) (by kernel_rfl) (fun _ _ _ h => h) hSt (by rfl) (by intro w' hSw; obtain ⟨y1, y2⟩ := hSw; go_simp <;> with_reducible rfl) ?_
                      simp only [Act.put, List.setIfInBounds_toArray, List.set_cons_zero, List.set_cons_succ]
                      refine wpAnyL_take (i := 10) 182 (v := .bool false) rfl rfl (by kernel_rfl) (by kernel_rfl) (by kernel_rfl) (by kernel_rfl) (by kernel_rfl) (by kernel_rfl) (fun _ _ _ h => h) hSt (by rfl) (by intro w' hSw; obtain ⟨y1, y2⟩ := hSw; go_simp <;> with_reducible rfl) ?_
                      simp only [Act.put, List.setIfInBounds_toArray, List.set_cons_zero, List.set_cons_succ]
                      refine wpAnyL_done (by kernel_rfl) ?_ _
                      have hNb : Calls Tryz.prog 16 #[.pointer (some ⟨qs, 0, none⟩), .agg #[.map (some (b)), v]] wt fun r w' => r = .returned (.bool true) ∧ Below wt.heap.size wt w' := lnumbers HFt.out.pl.sa HFt.out.pl.mp (by obtain ⟨a, c, e⟩ := HFt.out.pl.row.shape; exact ⟨a, _, c, e⟩)
                      obtain ⟨_, _, _, q0, q1, _, _⟩ := HFt.out.cells
                      clear hSt
                      go_wp2_with (go_at_call 16; refine Calls.mono hNb ?_; rintro r w8 ⟨rfl, e1⟩; have HB8 : Hid (Below wt.heap.size wt w8) := e1; clear e1 hNb)
                      go_roundw
                      case rel => exact ⟨k + 1, K2, hlt, h80, by go_num, by rfl, ⟨⟨_, _, _, (HFt.out.new HB8.out).pl⟩, HSq.out.2.1, HSq.out.2.2⟩⟩
                      case measure => simp [intOf]; omega
                  · have hn6 := k6
                    by_cases k7 : yk = 7
                    · subst k7
                      as_aux_lemma =>
                        have hG := sdrop (n := yn) HX.out.pl.sa HX.out.pl.low (by omega) hin
                        rw [hf] at hG
                        change Calls _ _ _ _ (fun r w' => r = .returned (.bool false) ∧ _) at hG
                        go_upto_region 32 with (go_at_call 9; refine Calls.mono hG ?_; rintro r w6 ⟨rfl, e1⟩; have HX6 : Hid (PlX w qs B bm ab y w6 Xm b v (K.dropK yn) (256 * k + 16) K.f K.near) := HX.out.call e1; clear e1 hG)
                        clear d0 d1 d2 m0 m1 g0 g1 hlk
                        obtain ⟨w7, hrun, hm7, hf7⟩ := HX6.out.pl.mp.del mtS hin 0
                        have HX7 : Hid (PlX w qs B bm ab y w7 Xm b v (K.dropK yn) (256 * k + 16) (cutO' K.f yn) K.near) := HX6.out.upd hf7 hm7
                        obtain ⟨d0, d1, d2, m0, m1, g0, g1⟩ := HX6.out.cells
                        rw [hst0.out] at d0 d1 d2
                        simp only at d0 d1 d2
                        clear hm7 hf7
                        go_upto_region 33 with (fail)
                        clear d0 d1 d2 m0 m1 g0 g1 hrun
                        obtain ⟨d0, d1, d2, m0, m1, g0, g1⟩ := HX7.out.cells
                        rw [hst0.out] at d0 d1 d2
                        simp only at d0 d1 d2
                        have hWo := mwithout (n := yn) HX7.out.pl.row.toS (by have := HX.out.pl.sa.ok.few; omega)
                        go_upto_region 37 with (go_at_call 10; refine Calls.mono hWo ?_; rintro r w8 ⟨v7, rfl, e1, e2⟩; obtain ⟨a7, l7, c7, rfl⟩ : ∃ a l c, v7 = .slice a l c := (by obtain ⟨a, c, e⟩ := e1.shape; exact ⟨a, _, c, e⟩); have HX8 : Hid (PlX w qs B bm ab y w8 Xm b v (K.dropK yn) (256 * k + 16) (cutO' K.f yn) K.near) := HX7.out.new e2; have HR8 : Hid (NrO w8 w.heap.size (.slice a7 l7 c7) (woI K.near yn)) := e1.low HX7.out.pl.low; obtain ⟨p0, p1, p2, p3, p4, p5, p6⟩ := HX8.out.cells; rw [hst0.out] at p0 p1 p2; simp only at p0 p1 p2; clear e1 e2 hWo)
                        clear d0 d1 d2 m0 m1 g0 g1 p0 p1 p2 p3 p4 p5 p6
                        have HF : Hid (PlX w qs B bm ab y (w8.setCell ⟨bm, 1, none⟩ (.slice a7 l7 c7)) Xm b (.slice a7 l7 c7) K (256 * k + 256) K.f K.near) := by
                          have h := (HX8.out.set1 HR8.out).mono (d := 256 * k + 256) (by omega)
                          have e1 : K.dropK yn = K := by unfold St.dropK; rw [hf]; rfl
                          have e2 : woI K.near yn = K.near := woI_id (fun hh => by have := HX.out.pl.sa.ok.sub yn hh; rw [hf] at this; cases this)
                          rw [e1, e2, cutO_self hf] at h
                          exact h
                        generalize w8.setCell ⟨bm, 1, none⟩ (.slice a7 l7 c7) = wF at HF ⊢
                        have HSq : Hid ((K).sp = K.sp + 0 ∧ (K).bud = bud ∧ (K).sp ≤ 16 * (k + 1)) := ⟨rfl, HE.out.bud, by have h1 := HE.out.sp; omega⟩
                        have hsb : K.sp ≤ 16 * 80 := by have := HE.out.sp; omega
                        have hgb : 0 ≤ 16 * 81 := by have := HSq.out.1; have := HSq.out.2.2; omega
                        go_upto_region 38 with (fail)
                        have hE8 : (K.sp : Int) + ((0 : Nat) : Int) = (((K).sp : Nat) : Int) := by rw [HSq.out.1]; simp
                        try simp only [Int.add_zero, Int.natCast_zero, Int.ofNat_zero] at hE8
                        try rw [hE8]
                        clear hE8 hsb hgb
                        obtain ⟨K2, hK2⟩ : ∃ K2, K = K2 := ⟨_, rfl⟩
                        rw [hK2] at HF HSq ⊢
                        clear hK2
                        have hsp2 : K2.sp ≤ 100000 := by have := HSq.out.2.2; omega
                        obtain ⟨T2, hT2⟩ : ∃ T2, totL K2.f K2.near = T2 := ⟨_, rfl⟩
                        have hok2 := HF.out.pl.sa.ok
                        have hby : byt (heldO K2.f K2.near) K2.near = T2 := by rw [← hT2]; exact held_tot K2.f K2.near K2.near (fun _ h => h)
                        obtain ⟨Wd, hWd⟩ : ∃ Wd, (wF).drew = Wd := ⟨_, rfl⟩
                        have bd : Below (wF).heap.size (wF) Wd := by rw [← hWd]; exact Below.drew (Below.refl _ _)
                        have HFd : Hid (PlX w qs B bm ab y Wd (Xm) (b) (.slice a7 l7 c7) K2 (256 * k + 256) K2.f K2.near) := HF.out.new bd
                        have hUd := sused HFd.out.pl.sa
                        rw [hby] at hUd
                        have HUm : Hid (∀ V, Below Wd.heap.size Wd V → Calls Tryz.prog 14 #[.agg #[.map (some (b)), .slice a7 l7 c7]] V fun r w' => r = .returned (.int .i64 T2) ∧ Below V.heap.size V w') := fun V hV => by
                          have h2 := HFd.out.new hV
                          have := mused h2.pl.mp h2.pl.row.toS (by have := hok2.few; omega) (fun x hx => by have := hok2.sup x (hok2.sub x hx); exact i6_few this.1 this.2) (st_lenO hok2)
                          rw [hT2] at this
                          exact this
                        have htb : T2 ≤ 16 * 140737488351232 := by
                          rw [← hT2]
                          refine Nat.le_trans (totL_le K2.near (fun x _ => st_lenO hok2 x)) (Nat.mul_le_mul_right _ hok2.few)
                        obtain ⟨_, _, _, q0, q1, _, _⟩ := HFd.out.cells
                        have hS : Wd.cell? ⟨bm, 0, none⟩ = some (.map (some (b))) ∧ Wd.cell? ⟨bm, 1, none⟩ = some (.slice a7 l7 c7) := ⟨q0, q1⟩
                        clear q0 q1 bd hby hT2 hok2
                        refine wp_calmD ?_
                        refine wp_region_L [] (fun W : World => W.cell? ⟨bm, 0, none⟩ = some (.map (some (b))) ∧ W.cell? ⟨bm, 1, none⟩ = some (.slice a7 l7 c7)) (by kernel_rfl) ?_
                        rw [hWd]
                        clear hWd
                        refine wpAnyL_take (i := 0) 172 (v := .pointer (some ⟨qs, 0, none⟩)) rfl rfl (by kernel_rfl) (by kernel_rfl) (by kernel_rfl) (by kernel_rfl) (by kernel_rfl) (by kernel_rfl) (fun _ _ _ h => h) hS (by rfl) (by intro w' hSw; obtain ⟨y1, y2⟩ := hSw; go_simp <;> with_reducible rfl) ?_
                        simp only [Act.put, List.setIfInBounds_toArray, List.set_cons_zero, List.set_cons_succ]
                        refine wpAnyL_take (i := 2) 174 (v := .agg #[.map (some (b)), .slice a7 l7 c7]) rfl rfl (by kernel_rfl) (by kernel_rfl) (by kernel_rfl) (by kernel_rfl) (by kernel_rfl) (by kernel_rfl) (fun _ _ _ h => h) hS (by rfl) (by intro w' hSw; obtain ⟨y1, y2⟩ := hSw; go_simp <;> with_reducible rfl) ?_
                        simp only [Act.put, List.setIfInBounds_toArray, List.set_cons_zero, List.set_cons_succ]
                        refine wpAnyL_one (i := 1) (by kernel_rfl) rfl (fun Ka hKa => ?_)
                        go_simp
                        refine Calls.mono hUd ?_
                        rintro r w5 ⟨rfl, hw5⟩
                        rw [hw5]
                        refine hKa.out _ _ (fun _ => hS) ?_
                        clear hKa Ka hw5 hUd
                        try simp only [Act.put, List.setIfInBounds_toArray, List.set_cons_zero, List.set_cons_succ]
                        have hUm := HUm.out Wd (Below.refl _ _)
                        refine wpAnyL_one (i := 3) (by kernel_rfl) rfl (fun Ka hKa => ?_)
                        go_simp
                        refine Calls.mono hUm ?_
                        rintro r wt ⟨rfl, et⟩
                        have HFt : Hid (PlX w qs B bm ab y wt (Xm) (b) (.slice a7 l7 c7) K2 (256 * k + 256) K2.f K2.near) := HFd.out.new et
                        obtain ⟨_, _, _, q0, q1, _, _⟩ := HFt.out.cells
                        have hSt : wt.cell? ⟨bm, 0, none⟩ = some (.map (some (b))) ∧ wt.cell? ⟨bm, 1, none⟩ = some (.slice a7 l7 c7) := ⟨q0, q1⟩
                        refine hKa.out _ _ (fun _ => hSt) ?_
                        clear hKa Ka et hUm hS q0 q1
                        try simp only [Act.put, List.setIfInBounds_toArray, List.set_cons_zero, List.set_cons_succ]
                        refine wpAnyL_take (i := 4) 176 (v := .bool false) rfl rfl (by kernel_rfl) (by kernel_rfl) (by kernel_rfl) (by kernel_rfl) (by kernel_rfl) (by kernel_rfl) (fun _ _ _ h => h) hSt (by rfl) (by intro w' hSw; obtain ⟨y1, y2⟩ := hSw; go_simp <;> with_reducible rfl) ?_
                        simp only [Act.put, List.setIfInBounds_toArray, List.set_cons_zero, List.set_cons_succ]
                        refine wpAnyL_take (i := 5) 177 (v := .bool false) rfl rfl (by kernel_rfl) (by kernel_rfl) (by kernel_rfl) (by kernel_rfl) (by kernel_rfl) (by kernel_rfl) (fun _ _ _ h => h) hSt (by rfl) (by intro w' hSw; obtain ⟨y1, y2⟩ := hSw; go_simp <;> with_reducible rfl) ?_
                        simp only [Act.put, List.setIfInBounds_toArray, List.set_cons_zero, List.set_cons_succ]
                        refine wpAnyL_take (i := 6) 178 (v := .pointer (some ⟨qs, 0, none⟩)) rfl rfl (by kernel_rfl) (by kernel_rfl) (by kernel_rfl) (by kernel_rfl) (by kernel_rfl) (by kernel_rfl) (fun _ _ _ h => h) hSt (by rfl) (by intro w' hSw; obtain ⟨y1, y2⟩ := hSw; go_simp <;> with_reducible rfl) ?_
                        simp only [Act.put, List.setIfInBounds_toArray, List.set_cons_zero, List.set_cons_succ]
                        refine wpAnyL_take (i := 8) 180 (v := .int .i64 K2.sp) rfl rfl (by kernel_rfl) (by kernel_rfl) (by kernel_rfl) (by kernel_rfl) (by kernel_rfl) (by kernel_rfl) (fun _ _ _ h => h) hSt (by rfl) (by intro w' hSw; obtain ⟨y1, y2⟩ := hSw; go_simp <;> with_reducible rfl) ?_
                        simp only [Act.put, List.setIfInBounds_toArray, List.set_cons_zero, List.set_cons_succ]
                        have hSp := sspills HFt.out.pl.sa
                        refine wpAnyL_one (i := 7) (by kernel_rfl) rfl (fun Ka hKa => ?_)
                        go_simp
                        refine Calls.mono hSp ?_
                        rintro r w5 ⟨rfl, hw5⟩
                        rw [hw5]
                        refine hKa.out _ _ (fun _ => hSt) ?_
                        clear hKa Ka hw5 hSp
                        try simp only [Act.put, List.setIfInBounds_toArray, List.set_cons_zero, List.set_cons_succ]
                        refine wpAnyL_take (i := 9) 181 (v := .bool false) rfl rfl (by kernel_rfl) (by kernel_rfl) (by kernel_rfl) (by kernel_rfl) (by kernel_rfl) (by kernel_rfl) (fun _ _ _ h => h) hSt (by rfl) (by intro w' hSw; obtain ⟨y1, y2⟩ := hSw; go_simp <;> with_reducible rfl) ?_
                        simp only [Act.put, List.setIfInBounds_toArray, List.set_cons_zero, List.set_cons_succ]
                        refine wpAnyL_take (i := 10) 182 (v := .bool false) rfl rfl (by kernel_rfl) (by kernel_rfl) (by kernel_rfl) (by kernel_rfl) (by kernel_rfl) (by kernel_rfl) (fun _ _ _ h => h) hSt (by rfl) (by intro w' hSw; obtain ⟨y1, y2⟩ := hSw; go_simp <;> with_reducible rfl) ?_
                        simp only [Act.put, List.setIfInBounds_toArray, List.set_cons_zero, List.set_cons_succ]
                        refine wpAnyL_done (by kernel_rfl) ?_ _
                        have hNb : Calls Tryz.prog 16 #[.pointer (some ⟨qs, 0, none⟩), .agg #[.map (some (b)), .slice a7 l7 c7]] wt fun r w' => r = .returned (.bool true) ∧ Below wt.heap.size wt w' := lnumbers HFt.out.pl.sa HFt.out.pl.mp (by obtain ⟨a, c, e⟩ := HFt.out.pl.row.shape; exact ⟨a, _, c, e⟩)
                        obtain ⟨_, _, _, q0, q1, _, _⟩ := HFt.out.cells
                        clear hSt
                        go_wp2_with (go_at_call 16; refine Calls.mono hNb ?_; rintro r w8 ⟨rfl, e1⟩; have HB8 : Hid (Below wt.heap.size wt w8) := e1; clear e1 hNb)
                        go_roundw
                        case rel => exact ⟨k + 1, K2, hlt, h80, by go_num, by rfl, ⟨⟨_, _, _, (HFt.out.new HB8.out).pl⟩, HSq.out.2.1, HSq.out.2.2⟩⟩
                        case measure => simp [intOf]; omega
                    · by_cases k8 : yk = 8
                      · subst k8
                        as_aux_lemma =>
                          have hG := sclear HX.out.pl.sa HX.out.pl.low (by omega)
                          go_upto_region 36 with (go_at_call 11; refine Calls.mono hG ?_; rintro r w6 ⟨rfl, e1⟩; have HX6 : Hid (PlX w qs B bm ab y w6 Xm b v K.clr (256 * k + 256) K.f K.near) := HX.out.call e1; clear e1 hG)
                          clear d0 d1 d2 m0 m1 g0 g1 hlk
                          have hmm := @run_makeMap Tryz.prog
                          have hbA : (w6.alloc (.map #[] 0)).heap[bm]? = some (.cells #[.map (some b), v] 33 (0, 0)) := ((gone_new w6 (.map #[] 0)).block bm (lt_blk HX6.out.pl.bx)).trans HX6.out.pl.bx
                          have HbA : Hid ((w6.alloc (.map #[] 0)).heap[bm]? = some (.cells #[.map (some b), v] 33 (0, 0))) := hbA
                          clear hbA
                          go_upto_region 37 with (refine wpList_store_row rfl 33 _ _ rfl _ #[.map (some w6.heap.size), .slice none 0 0] rfl rfl 33 #[.map (some b), v] HbA.out size_model rfl (by simp [Value.oneCell']) ?_)
                          clear hmm HbA
                          obtain ⟨Xn, hF⟩ := HX6.out.anew
                          have HF : Hid (PlX w qs B bm ab y ((w6.alloc (.map #[] 0)).setRow bm #[.map (some w6.heap.size), .slice none 0 0]) Xn w6.heap.size (.slice none 0 0) K.clr (256 * k + 256) K.clr.f K.clr.near) := hF
                          clear hF
                          generalize (w6.alloc (.map #[] 0)).setRow bm #[.map (some w6.heap.size), .slice none 0 0] = wF at HF ⊢
                          generalize w6.heap.size = b' at HF ⊢
                          have HSq : Hid ((K.clr).sp = K.sp + 0 ∧ (K.clr).bud = bud ∧ (K.clr).sp ≤ 16 * (k + 1)) := ⟨rfl, HE.out.bud, by have h1 := HE.out.sp; show K.sp ≤ _; omega⟩
                          have hsb : K.sp ≤ 16 * 80 := by have := HE.out.sp; omega
                          have hgb : 0 ≤ 16 * 81 := by have := HSq.out.1; have := HSq.out.2.2; omega
                          go_upto_region 38 with (fail)
                          have hE8 : (K.sp : Int) + ((0 : Nat) : Int) = (((K.clr).sp : Nat) : Int) := by rw [HSq.out.1]; simp
                          try simp only [Int.add_zero, Int.natCast_zero, Int.ofNat_zero] at hE8
                          try rw [hE8]
                          clear hE8 hsb hgb
                          obtain ⟨K2, hK2⟩ : ∃ K2, K.clr = K2 := ⟨_, rfl⟩
                          rw [hK2] at HF HSq ⊢
                          clear hK2
                          have hsp2 : K2.sp ≤ 100000 := by have := HSq.out.2.2; omega
                          obtain ⟨T2, hT2⟩ : ∃ T2, totL K2.f K2.near = T2 := ⟨_, rfl⟩
                          have hok2 := HF.out.pl.sa.ok
                          have hby : byt (heldO K2.f K2.near) K2.near = T2 := by rw [← hT2]; exact held_tot K2.f K2.near K2.near (fun _ h => h)
                          obtain ⟨Wd, hWd⟩ : ∃ Wd, (wF).drew = Wd := ⟨_, rfl⟩
                          have bd : Below (wF).heap.size (wF) Wd := by rw [← hWd]; exact Below.drew (Below.refl _ _)
                          have HFd : Hid (PlX w qs B bm ab y Wd (Xn) (b') (.slice none 0 0) K2 (256 * k + 256) K2.f K2.near) := HF.out.new bd
                          have hUd := sused HFd.out.pl.sa
                          rw [hby] at hUd
                          have HUm : Hid (∀ V, Below Wd.heap.size Wd V → Calls Tryz.prog 14 #[.agg #[.map (some (b')), .slice none 0 0]] V fun r w' => r = .returned (.int .i64 T2) ∧ Below V.heap.size V w') := fun V hV => by
                            have h2 := HFd.out.new hV
                            have := mused h2.pl.mp h2.pl.row.toS (by have := hok2.few; omega) (fun x hx => by have := hok2.sup x (hok2.sub x hx); exact i6_few this.1 this.2) (st_lenO hok2)
                            rw [hT2] at this
                            exact this
                          have htb : T2 ≤ 16 * 140737488351232 := by
                            rw [← hT2]
                            refine Nat.le_trans (totL_le K2.near (fun x _ => st_lenO hok2 x)) (Nat.mul_le_mul_right _ hok2.few)
                          obtain ⟨_, _, _, q0, q1, _, _⟩ := HFd.out.cells
                          have hS : Wd.cell? ⟨bm, 0, none⟩ = some (.map (some (b'))) ∧ Wd.cell? ⟨bm, 1, none⟩ = some (.slice none 0 0) := ⟨q0, q1⟩
                          clear q0 q1 bd hby hT2 hok2
                          refine wp_calmD ?_
                          refine wp_region_L [] (fun W : World => W.cell? ⟨bm, 0, none⟩ = some (.map (some (b'))) ∧ W.cell? ⟨bm, 1, none⟩ = some (.slice none 0 0)) (by kernel_rfl) ?_
                          rw [hWd]
                          clear hWd
                          refine wpAnyL_take (i := 0) 172 (v := .pointer (some ⟨qs, 0, none⟩)) rfl rfl (by kernel_rfl) (by kernel_rfl) (by kernel_rfl) (by kernel_rfl) (by kernel_rfl) (by kernel_rfl) (fun _ _ _ h => h) hS (by rfl) (by intro w' hSw; obtain ⟨y1, y2⟩ := hSw; go_simp <;> with_reducible rfl) ?_
                          simp only [Act.put, List.setIfInBounds_toArray, List.set_cons_zero, List.set_cons_succ]
                          refine wpAnyL_take (i := 2) 174 (v := .agg #[.map (some (b')), .slice none 0 0]) rfl rfl (by kernel_rfl) (by kernel_rfl) (by kernel_rfl) (by kernel_rfl) (by kernel_rfl) (by kernel_rfl) (fun _ _ _ h => h) hS (by rfl) (by intro w' hSw; obtain ⟨y1, y2⟩ := hSw; go_simp <;> with_reducible rfl) ?_
                          simp only [Act.put, List.setIfInBounds_toArray, List.set_cons_zero, List.set_cons_succ]
                          refine wpAnyL_one (i := 1) (by kernel_rfl) rfl (fun Ka hKa => ?_)
                          go_simp
                          refine Calls.mono hUd ?_
                          rintro r w5 ⟨rfl, hw5⟩
                          rw [hw5]
                          refine hKa.out _ _ (fun _ => hS) ?_
                          clear hKa Ka hw5 hUd
                          try simp only [Act.put, List.setIfInBounds_toArray, List.set_cons_zero, List.set_cons_succ]
                          have hUm := HUm.out Wd (Below.refl _ _)
                          refine wpAnyL_one (i := 3) (by kernel_rfl) rfl (fun Ka hKa => ?_)
                          go_simp
                          refine Calls.mono hUm ?_
                          rintro r wt ⟨rfl, et⟩
                          have HFt : Hid (PlX w qs B bm ab y wt (Xn) (b') (.slice none 0 0) K2 (256 * k + 256) K2.f K2.near) := HFd.out.new et
                          obtain ⟨_, _, _, q0, q1, _, _⟩ := HFt.out.cells
                          have hSt : wt.cell? ⟨bm, 0, none⟩ = some (.map (some (b'))) ∧ wt.cell? ⟨bm, 1, none⟩ = some (.slice none 0 0) := ⟨q0, q1⟩
                          refine hKa.out _ _ (fun _ => hSt) ?_
                          clear hKa Ka et hUm hS q0 q1
                          try simp only [Act.put, List.setIfInBounds_toArray, List.set_cons_zero, List.set_cons_succ]
                          refine wpAnyL_take (i := 4) 176 (v := .bool false) rfl rfl (by kernel_rfl) (by kernel_rfl) (by kernel_rfl) (by kernel_rfl) (by kernel_rfl) (by kernel_rfl) (fun _ _ _ h => h) hSt (by rfl) (by intro w' hSw; obtain ⟨y1, y2⟩ := hSw; go_simp <;> with_reducible rfl) ?_
                          simp only [Act.put, List.setIfInBounds_toArray, List.set_cons_zero, List.set_cons_succ]
                          refine wpAnyL_take (i := 5) 177 (v := .bool false) rfl rfl (by kernel_rfl) (by kernel_rfl) (by kernel_rfl) (by kernel_rfl) (by kernel_rfl) (by kernel_rfl) (fun _ _ _ h => h) hSt (by rfl) (by intro w' hSw; obtain ⟨y1, y2⟩ := hSw; go_simp <;> with_reducible rfl) ?_
                          simp only [Act.put, List.setIfInBounds_toArray, List.set_cons_zero, List.set_cons_succ]
                          refine wpAnyL_take (i := 6) 178 (v := .pointer (some ⟨qs, 0, none⟩)) rfl rfl (by kernel_rfl) (by kernel_rfl) (by kernel_rfl) (by kernel_rfl) (by kernel_rfl) (by kernel_rfl) (fun _ _ _ h => h) hSt (by rfl) (by intro w' hSw; obtain ⟨y1, y2⟩ := hSw; go_simp <;> with_reducible rfl) ?_
                          simp only [Act.put, List.setIfInBounds_toArray, List.set_cons_zero, List.set_cons_succ]
                          refine wpAnyL_take (i := 8) 180 (v := .int .i64 K2.sp) rfl rfl (by kernel_rfl) (by kernel_rfl) (by kernel_rfl) (by kernel_rfl) (by kernel_rfl) (by kernel_rfl) (fun _ _ _ h => h) hSt (by rfl) (by intro w' hSw; obtain ⟨y1, y2⟩ := hSw; go_simp <;> with_reducible rfl) ?_
                          simp only [Act.put, List.setIfInBounds_toArray, List.set_cons_zero, List.set_cons_succ]
                          have hSp := sspills HFt.out.pl.sa
                          refine wpAnyL_one (i := 7) (by kernel_rfl) rfl (fun Ka hKa => ?_)
                          go_simp
                          refine Calls.mono hSp ?_
                          rintro r w5 ⟨rfl, hw5⟩
                          rw [hw5]
                          refine hKa.out _ _ (fun _ => hSt) ?_
                          clear hKa Ka hw5 hSp
                          try simp only [Act.put, List.setIfInBounds_toArray, List.set_cons_zero, List.set_cons_succ]
                          refine wpAnyL_take (i := 9) 181 (v := .bool false) rfl rfl (by kernel_rfl) (by kernel_rfl) (by kernel_rfl) (by kernel_rfl) (by kernel_rfl) (by kernel_rfl) (fun _ _ _ h => h) hSt (by rfl) (by intro w' hSw; obtain ⟨y1, y2⟩ := hSw; go_simp <;> with_reducible rfl) ?_
                          simp only [Act.put, List.setIfInBounds_toArray, List.set_cons_zero, List.set_cons_succ]
                          refine wpAnyL_take (i := 10) 182 (v := .bool false) rfl rfl (by kernel_rfl) (by kernel_rfl) (by kernel_rfl) (by kernel_rfl) (by kernel_rfl) (by kernel_rfl) (fun _ _ _ h => h) hSt (by rfl) (by intro w' hSw; obtain ⟨y1, y2⟩ := hSw; go_simp <;> with_reducible rfl) ?_
                          simp only [Act.put, List.setIfInBounds_toArray, List.set_cons_zero, List.set_cons_succ]
                          refine wpAnyL_done (by kernel_rfl) ?_ _
                          have hNb : Calls Tryz.prog 16 #[.pointer (some ⟨qs, 0, none⟩), .agg #[.map (some (b')), .slice none 0 0]] wt fun r w' => r = .returned (.bool true) ∧ Below wt.heap.size wt w' := lnumbers HFt.out.pl.sa HFt.out.pl.mp (by obtain ⟨a, c, e⟩ := HFt.out.pl.row.shape; exact ⟨a, _, c, e⟩)
                          obtain ⟨_, _, _, q0, q1, _, _⟩ := HFt.out.cells
                          clear hSt
                          go_wp2_with (go_at_call 16; refine Calls.mono hNb ?_; rintro r w8 ⟨rfl, e1⟩; have HB8 : Hid (Below wt.heap.size wt w8) := e1; clear e1 hNb)
                          go_roundw
                          case rel => exact ⟨k + 1, K2, hlt, h80, by go_num, by rfl, ⟨⟨_, _, _, (HFt.out.new HB8.out).pl⟩, HSq.out.2.1, HSq.out.2.2⟩⟩
                          case measure => simp [intOf]; omega
                      · have hn8 := k8
                        as_aux_lemma =>
                          have hG := sput (n := yn) (t := ys) HX.out.pl.sa HX.out.pl.low (by omega) hsl (by have := HE.out.sp; omega)
                          rw [if_pos ho] at hG
                          go_upto_region 16 with (go_at_call 12; refine Calls.mono hG ?_; rintro r w6 ⟨rfl, e1⟩; have HX6 : Hid (PlX w qs B bm ab y w6 Xm b v (K.putK yn ys) (256 * k + 16) K.f K.near) := HX.out.call e1; clear e1 hG)
                          clear d0 d1 d2 m0 m1 g0 g1 hlk
                          obtain ⟨w7, hrun, hm7, hf7⟩ := HX6.out.pl.mp.put mtS r0 r1 ys
                          change (Instr.mapUpdate 30 (.map (some b)) (.int .i64 yn) (.string (str ys))).run Tryz.prog w6 = .ok () w7 at hrun
                          have HX7 : Hid (PlX w qs B bm ab y w7 Xm b v (K.putK yn ys) (256 * k + 16) (setO K.f yn ys) K.near) := HX6.out.upd hf7 hm7
                          obtain ⟨d0, d1, d2, m0, m1, g0, g1⟩ := HX6.out.cells
                          rw [hst0.out] at d0 d1 d2
                          simp only at d0 d1 d2
                          clear hm7 hf7
                          go_upto_region 20 with (fail)
                          clear d0 d1 d2 m0 m1 g0 g1 hrun
                          obtain ⟨d0, d1, d2, m0, m1, g0, g1⟩ := HX7.out.cells
                          rw [hst0.out] at d0 d1 d2
                          simp only at d0 d1 d2
                          have hU := HUse.out w7 Xm b v (K.putK yn ys) (256 * k + 16) ys
                          have hU := hU ⟨HX7.out.pl.sa, HX7.out.pl.row⟩ HX7.out.pl.mp (st_lenO (HX.out.pl.sa.ok.use r0 r1 hsl))
                          go_upto_region 37 with (first
                            | (refine wpList_load_row rfl 33 _ rfl bm rfl 33 #[.map (some b), v] (0, 0) _ HX7.out.pl.bx Tryz.underlying33 rfl size_model ?_)
                            | (go_at_call 8; refine Calls.mono hU ?_; rintro r w8 ⟨v7, rfl, e1, e2⟩; obtain ⟨a7, l7, c7, rfl⟩ : ∃ a l c, v7 = .slice a l c := (by obtain ⟨a, c, e⟩ := e1.shape; exact ⟨a, _, c, e⟩); have HX8 : Hid (PlX w qs B bm ab y w8 Xm b v (K.putK yn ys) (256 * k + 16) (setO K.f yn ys) K.near) := HX7.out.new e2; have HR8 : Hid (NrO w8 w.heap.size (.slice a7 l7 c7) (K.use yn ys).near) := e1.low HX7.out.pl.low; clear e1 e2 hU)
                            | (refine wpList_store_row rfl 33 _ _ rfl _ #[.map (some b), .slice a7 l7 c7] rfl rfl 33 #[.map (some b), v] HX8.out.pl.bx size_model rfl (by simp [Value.oneCell']) ?_))
                          clear d0 d1 d2 m0 m1 g0 g1
                          have HF : Hid (PlX w qs B bm ab y (w8.setRow bm #[.map (some b), .slice a7 l7 c7]) Xm b (.slice a7 l7 c7) (K.use yn ys) (256 * k + 256) (K.use yn ys).f (K.use yn ys).near) := by
                            have h := (HX8.out.setR HR8.out).mono (d := 256 * k + 256) (by omega)
                            have e1 : K.putK yn ys = K.use yn ys := by unfold St.putK; rw [if_pos ho]
                            rw [e1] at h
                            exact h
                          generalize w8.setRow bm #[.map (some b), .slice a7 l7 c7] = wF at HF ⊢
                          have HSq : Hid ((K.use yn ys).sp = K.sp + K.go yn ys ∧ (K.use yn ys).bud = bud ∧ (K.use yn ys).sp ≤ 16 * (k + 1)) := ⟨rfl, HE.out.bud, by have h1 := HE.out.sp; have h2 := St.go_le (n := yn) (t := ys) HX.out.pl.sa.ok; show K.sp + K.go yn ys ≤ _; omega⟩
                          have hsb : K.sp ≤ 16 * 80 := by have := HE.out.sp; omega
                          have hgb : K.go yn ys ≤ 16 * 81 := by have := HSq.out.1; have := HSq.out.2.2; omega
                          go_upto_region 38 with (fail)
                          have hE8 : (K.sp : Int) + ((K.go yn ys : Nat) : Int) = (((K.use yn ys).sp : Nat) : Int) := by rw [HSq.out.1]; simp
                          try simp only [Int.add_zero, Int.natCast_zero, Int.ofNat_zero] at hE8
                          try rw [hE8]
                          clear hE8 hsb hgb
                          obtain ⟨K2, hK2⟩ : ∃ K2, K.use yn ys = K2 := ⟨_, rfl⟩
                          rw [hK2] at HF HSq ⊢
                          clear hK2
                          have hsp2 : K2.sp ≤ 100000 := by have := HSq.out.2.2; omega
                          obtain ⟨T2, hT2⟩ : ∃ T2, totL K2.f K2.near = T2 := ⟨_, rfl⟩
                          have hok2 := HF.out.pl.sa.ok
                          have hby : byt (heldO K2.f K2.near) K2.near = T2 := by rw [← hT2]; exact held_tot K2.f K2.near K2.near (fun _ h => h)
                          obtain ⟨Wd, hWd⟩ : ∃ Wd, (wF).drew = Wd := ⟨_, rfl⟩
                          have bd : Below (wF).heap.size (wF) Wd := by rw [← hWd]; exact Below.drew (Below.refl _ _)
                          have HFd : Hid (PlX w qs B bm ab y Wd (Xm) (b) (.slice a7 l7 c7) K2 (256 * k + 256) K2.f K2.near) := HF.out.new bd
                          have hUd := sused HFd.out.pl.sa
                          rw [hby] at hUd
                          have HUm : Hid (∀ V, Below Wd.heap.size Wd V → Calls Tryz.prog 14 #[.agg #[.map (some (b)), .slice a7 l7 c7]] V fun r w' => r = .returned (.int .i64 T2) ∧ Below V.heap.size V w') := fun V hV => by
                            have h2 := HFd.out.new hV
                            have := mused h2.pl.mp h2.pl.row.toS (by have := hok2.few; omega) (fun x hx => by have := hok2.sup x (hok2.sub x hx); exact i6_few this.1 this.2) (st_lenO hok2)
                            rw [hT2] at this
                            exact this
                          have htb : T2 ≤ 16 * 140737488351232 := by
                            rw [← hT2]
                            refine Nat.le_trans (totL_le K2.near (fun x _ => st_lenO hok2 x)) (Nat.mul_le_mul_right _ hok2.few)
                          obtain ⟨_, _, _, q0, q1, _, _⟩ := HFd.out.cells
                          have hS : Wd.cell? ⟨bm, 0, none⟩ = some (.map (some (b))) ∧ Wd.cell? ⟨bm, 1, none⟩ = some (.slice a7 l7 c7) := ⟨q0, q1⟩
                          clear q0 q1 bd hby hT2 hok2
                          refine wp_calmD ?_
                          refine wp_region_L [] (fun W : World => W.cell? ⟨bm, 0, none⟩ = some (.map (some (b))) ∧ W.cell? ⟨bm, 1, none⟩ = some (.slice a7 l7 c7)) (by kernel_rfl) ?_
                          rw [hWd]
                          clear hWd
                          refine wpAnyL_take (i := 0) 172 (v := .pointer (some ⟨qs, 0, none⟩)) rfl rfl (by kernel_rfl) (by kernel_rfl) (by kernel_rfl) (by kernel_rfl) (by kernel_rfl) (by kernel_rfl) (fun _ _ _ h => h) hS (by rfl) (by intro w' hSw; obtain ⟨y1, y2⟩ := hSw; go_simp <;> with_reducible rfl) ?_
                          simp only [Act.put, List.setIfInBounds_toArray, List.set_cons_zero, List.set_cons_succ]
                          refine wpAnyL_take (i := 2) 174 (v := .agg #[.map (some (b)), .slice a7 l7 c7]) rfl rfl (by kernel_rfl) (by kernel_rfl) (by kernel_rfl) (by kernel_rfl) (by kernel_rfl) (by kernel_rfl) (fun _ _ _ h => h) hS (by rfl) (by intro w' hSw; obtain ⟨y1, y2⟩ := hSw; go_simp <;> with_reducible rfl) ?_
                          simp only [Act.put, List.setIfInBounds_toArray, List.set_cons_zero, List.set_cons_succ]
                          refine wpAnyL_one (i := 1) (by kernel_rfl) rfl (fun Ka hKa => ?_)
                          go_simp
                          refine Calls.mono hUd ?_
                          rintro r w5 ⟨rfl, hw5⟩
                          rw [hw5]
                          refine hKa.out _ _ (fun _ => hS) ?_
                          clear hKa Ka hw5 hUd
                          try simp only [Act.put, List.setIfInBounds_toArray, List.set_cons_zero, List.set_cons_succ]
                          have hUm := HUm.out Wd (Below.refl _ _)
                          refine wpAnyL_one (i := 3) (by kernel_rfl) rfl (fun Ka hKa => ?_)
                          go_simp
                          refine Calls.mono hUm ?_
                          rintro r wt ⟨rfl, et⟩
                          have HFt : Hid (PlX w qs B bm ab y wt (Xm) (b) (.slice a7 l7 c7) K2 (256 * k + 256) K2.f K2.near) := HFd.out.new et
                          obtain ⟨_, _, _, q0, q1, _, _⟩ := HFt.out.cells
                          have hSt : wt.cell? ⟨bm, 0, none⟩ = some (.map (some (b))) ∧ wt.cell? ⟨bm, 1, none⟩ = some (.slice a7 l7 c7) := ⟨q0, q1⟩
                          refine hKa.out _ _ (fun _ => hSt) ?_
                          clear hKa Ka et hUm hS q0 q1
                          try simp only [Act.put, List.setIfInBounds_toArray, List.set_cons_zero, List.set_cons_succ]
                          refine wpAnyL_take (i := 4) 176 (v := .bool false) rfl rfl (by kernel_rfl) (by kernel_rfl) (by kernel_rfl) (by kernel_rfl) (by kernel_rfl) (by kernel_rfl) (fun _ _ _ h => h) hSt (by rfl) (by intro w' hSw; obtain ⟨y1, y2⟩ := hSw; go_simp <;> with_reducible rfl) ?_
                          simp only [Act.put, List.setIfInBounds_toArray, List.set_cons_zero, List.set_cons_succ]
                          refine wpAnyL_take (i := 5) 177 (v := .bool false) rfl rfl (by kernel_rfl) (by kernel_rfl) (by kernel_rfl) (by kernel_rfl) (by kernel_rfl) (by kernel_rfl) (fun _ _ _ h => h) hSt (by rfl) (by intro w' hSw; obtain ⟨y1, y2⟩ := hSw; go_simp <;> with_reducible rfl) ?_
                          simp only [Act.put, List.setIfInBounds_toArray, List.set_cons_zero, List.set_cons_succ]
                          refine wpAnyL_take (i := 6) 178 (v := .pointer (some ⟨qs, 0, none⟩)) rfl rfl (by kernel_rfl) (by kernel_rfl) (by kernel_rfl) (by kernel_rfl) (by kernel_rfl) (by kernel_rfl) (fun _ _ _ h => h) hSt (by rfl) (by intro w' hSw; obtain ⟨y1, y2⟩ := hSw; go_simp <;> with_reducible rfl) ?_
                          simp only [Act.put, List.setIfInBounds_toArray, List.set_cons_zero, List.set_cons_succ]
                          refine wpAnyL_take (i := 8) 180 (v := .int .i64 K2.sp) rfl rfl (by kernel_rfl) (by kernel_rfl) (by kernel_rfl) (by kernel_rfl) (by kernel_rfl) (by kernel_rfl) (fun _ _ _ h => h) hSt (by rfl) (by intro w' hSw; obtain ⟨y1, y2⟩ := hSw; go_simp <;> with_reducible rfl) ?_
                          simp only [Act.put, List.setIfInBounds_toArray, List.set_cons_zero, List.set_cons_succ]
                          have hSp := sspills HFt.out.pl.sa
                          refine wpAnyL_one (i := 7) (by kernel_rfl) rfl (fun Ka hKa => ?_)
                          go_simp
                          refine Calls.mono hSp ?_
                          rintro r w5 ⟨rfl, hw5⟩
                          rw [hw5]
                          refine hKa.out _ _ (fun _ => hSt) ?_
                          clear hKa Ka hw5 hSp
                          try simp only [Act.put, List.setIfInBounds_toArray, List.set_cons_zero, List.set_cons_succ]
                          refine wpAnyL_take (i := 9) 181 (v := .bool false) rfl rfl (by kernel_rfl) (by kernel_rfl) (by kernel_rfl) (by kernel_rfl) (by kernel_rfl) (by kernel_rfl) (fun _ _ _ h => h) hSt (by rfl) (by intro w' hSw; obtain ⟨y1, y2⟩ := hSw; go_simp <;> with_reducible rfl) ?_
                          simp only [Act.put, List.setIfInBounds_toArray, List.set_cons_zero, List.set_cons_succ]
                          refine wpAnyL_take (i := 10) 182 (v := .bool false) rfl rfl (by kernel_rfl) (by kernel_rfl) (by kernel_rfl) (by kernel_rfl) (by kernel_rfl) (by kernel_rfl) (fun _ _ _ h => h) hSt (by rfl) (by intro w' hSw; obtain ⟨y1, y2⟩ := hSw; go_simp <;> with_reducible rfl) ?_
                          simp only [Act.put, List.setIfInBounds_toArray, List.set_cons_zero, List.set_cons_succ]
                          refine wpAnyL_done (by kernel_rfl) ?_ _
                          have hNb : Calls Tryz.prog 16 #[.pointer (some ⟨qs, 0, none⟩), .agg #[.map (some (b)), .slice a7 l7 c7]] wt fun r w' => r = .returned (.bool true) ∧ Below wt.heap.size wt w' := lnumbers HFt.out.pl.sa HFt.out.pl.mp (by obtain ⟨a, c, e⟩ := HFt.out.pl.row.shape; exact ⟨a, _, c, e⟩)
                          obtain ⟨_, _, _, q0, q1, _, _⟩ := HFt.out.cells
                          clear hSt
                          go_wp2_with (go_at_call 16; refine Calls.mono hNb ?_; rintro r w8 ⟨rfl, e1⟩; have HB8 : Hid (Below wt.heap.size wt w8) := e1; clear e1 hNb)
                          go_roundw
                          case rel => exact ⟨k + 1, K2, hlt, h80, by go_num, by rfl, ⟨⟨_, _, _, (HFt.out.new HB8.out).pl⟩, HSq.out.2.1, HSq.out.2.2⟩⟩
                          case measure => simp [intOf]; omega
          · have ho : ¬ okN yn = true := fun h => r1 (okN_iff.1 h).2
            have hf : K.f yn = none := by
              cases e : K.f yn with
              | none => rfl
              | some s => exact absurd (HX.out.pl.sa.ok.sup yn (by rw [e]; rfl)).2 r1
            rw [hf] at hlk
            simp only [Option.getD_none, Option.isSome_none] at hlk
            go_upto_region 21 with (fail)
            by_cases k4 : yk = 4
            · subst k4
              as_aux_lemma =>
                have hG := sget (n := yn) HX.out.pl.sa HX.out.pl.low (by omega) hin (by have := HE.out.sp; omega)
                rw [hf] at hG
                change Calls _ _ _ _ (fun r w' => r = .returned (.tuple #[.string (str []), .int .i64 2]) ∧ _) at hG
                have hst : (str []).toList = [] := str_toList _
                go_upto_region 25 with (go_at_call 7; refine Calls.mono hG ?_; rintro r w6 ⟨rfl, e1⟩; have HX6 : Hid (PlX w qs B bm ab y w6 Xm b v (K.getK yn) (256 * k + 16) K.f K.near) := HX.out.call e1; clear e1 hG)
                clear d0 d1 d2 m0 m1 g0 g1 hlk
                have HF : Hid (PlX w qs B bm ab y w6 Xm b v K (256 * k + 256) K.f K.near) := by
                  have h := HX6.out.mono (d := 256 * k + 256) (by omega)
                  have e1 : K.getK yn = K := by unfold St.getK; rw [hf]
                  rw [e1] at h
                  exact h
                have HSq : Hid ((K).sp = K.sp + 0 ∧ (K).bud = bud ∧ (K).sp ≤ 16 * (k + 1)) := ⟨rfl, HE.out.bud, by have h1 := HE.out.sp; omega⟩
                have hsb : K.sp ≤ 16 * 80 := by have := HE.out.sp; omega
                have hgb : 0 ≤ 16 * 81 := by have := HSq.out.1; have := HSq.out.2.2; omega
                go_upto_region 38 with (fail)
                have hE8 : (K.sp : Int) + ((0 : Nat) : Int) = (((K).sp : Nat) : Int) := by rw [HSq.out.1]; simp
                try simp only [Int.add_zero, Int.natCast_zero, Int.ofNat_zero] at hE8
                try rw [hE8]
                clear hE8 hsb hgb
                obtain ⟨K2, hK2⟩ : ∃ K2, K = K2 := ⟨_, rfl⟩
                rw [hK2] at HF HSq ⊢
                clear hK2
                have hsp2 : K2.sp ≤ 100000 := by have := HSq.out.2.2; omega
                obtain ⟨T2, hT2⟩ : ∃ T2, totL K2.f K2.near = T2 := ⟨_, rfl⟩
                have hok2 := HF.out.pl.sa.ok
                have hby : byt (heldO K2.f K2.near) K2.near = T2 := by rw [← hT2]; exact held_tot K2.f K2.near K2.near (fun _ h => h)
                obtain ⟨Wd, hWd⟩ : ∃ Wd, (w6).drew = Wd := ⟨_, rfl⟩
                have bd : Below (w6).heap.size (w6) Wd := by rw [← hWd]; exact Below.drew (Below.refl _ _)
                have HFd : Hid (PlX w qs B bm ab y Wd (Xm) (b) (v) K2 (256 * k + 256) K2.f K2.near) := HF.out.new bd
                have hUd := sused HFd.out.pl.sa
                rw [hby] at hUd
                have HUm : Hid (∀ V, Below Wd.heap.size Wd V → Calls Tryz.prog 14 #[.agg #[.map (some (b)), v]] V fun r w' => r = .returned (.int .i64 T2) ∧ Below V.heap.size V w') := fun V hV => by
                  have h2 := HFd.out.new hV
                  have := mused h2.pl.mp h2.pl.row.toS (by have := hok2.few; omega) (fun x hx => by have := hok2.sup x (hok2.sub x hx); exact i6_few this.1 this.2) (st_lenO hok2)
                  rw [hT2] at this
                  exact this
                have htb : T2 ≤ 16 * 140737488351232 := by
                  rw [← hT2]
                  refine Nat.le_trans (totL_le K2.near (fun x _ => st_lenO hok2 x)) (Nat.mul_le_mul_right _ hok2.few)
                obtain ⟨_, _, _, q0, q1, _, _⟩ := HFd.out.cells
                have hS : Wd.cell? ⟨bm, 0, none⟩ = some (.map (some (b))) ∧ Wd.cell? ⟨bm, 1, none⟩ = some (v) := ⟨q0, q1⟩
                clear q0 q1 bd hby hT2 hok2
                refine wp_calmD ?_
                refine wp_region_L [] (fun W : World => W.cell? ⟨bm, 0, none⟩ = some (.map (some (b))) ∧ W.cell? ⟨bm, 1, none⟩ = some (v)) (by kernel_rfl) ?_
                rw [hWd]
                clear hWd
                refine wpAnyL_take (i := 0) 172 (v := .pointer (some ⟨qs, 0, none⟩)) rfl rfl (by kernel_rfl) (by kernel_rfl) (by kernel_rfl) (by kernel_rfl) (by kernel_rfl) (by kernel_rfl) (fun _ _ _ h => h) hS (by rfl) (by intro w' hSw; obtain ⟨y1, y2⟩ := hSw; go_simp <;> with_reducible rfl) ?_
                simp only [Act.put, List.setIfInBounds_toArray, List.set_cons_zero, List.set_cons_succ]
                refine wpAnyL_take (i := 2) 174 (v := .agg #[.map (some (b)), v]) rfl rfl (by kernel_rfl) (by kernel_rfl) (by kernel_rfl) (by kernel_rfl) (by kernel_rfl) (by kernel_rfl) (fun _ _ _ h => h) hS (by rfl) (by intro w' hSw; obtain ⟨y1, y2⟩ := hSw; go_simp <;> with_reducible rfl) ?_
                simp only [Act.put, List.setIfInBounds_toArray, List.set_cons_zero, List.set_cons_succ]
                refine wpAnyL_one (i := 1) (by kernel_rfl) rfl (fun Ka hKa => ?_)
                go_simp
                refine Calls.mono hUd ?_
                rintro r w5 ⟨rfl, hw5⟩
                rw [hw5]
                refine hKa.out _ _ (fun _ => hS) ?_
                clear hKa Ka hw5 hUd
                try simp only [Act.put, List.setIfInBounds_toArray, List.set_cons_zero, List.set_cons_succ]
                have hUm := HUm.out Wd (Below.refl _ _)
                refine wpAnyL_one (i := 3) (by kernel_rfl) rfl (fun Ka hKa => ?_)
                go_simp
                refine Calls.mono hUm ?_
                rintro r wt ⟨rfl, et⟩
                have HFt : Hid (PlX w qs B bm ab y wt (Xm) (b) (v) K2 (256 * k + 256) K2.f K2.near) := HFd.out.new et
                obtain ⟨_, _, _, q0, q1, _, _⟩ := HFt.out.cells
                have hSt : wt.cell? ⟨bm, 0, none⟩ = some (.map (some (b))) ∧ wt.cell? ⟨bm, 1, none⟩ = some (v) := ⟨q0, q1⟩
                refine hKa.out _ _ (fun _ => hSt) ?_
                clear hKa Ka et hUm hS q0 q1
                try simp only [Act.put, List.setIfInBounds_toArray, List.set_cons_zero, List.set_cons_succ]
                refine wpAnyL_take (i := 4) 176 (v := .bool false) rfl rfl (by kernel_rfl) (by kernel_rfl) (by kernel_rfl) (by kernel_rfl) (by kernel_rfl) (by kernel_rfl) (fun _ _ _ h => h) hSt (by rfl) (by intro w' hSw; obtain ⟨y1, y2⟩ := hSw; go_simp <;> with_reducible rfl) ?_
                simp only [Act.put, List.setIfInBounds_toArray, List.set_cons_zero, List.set_cons_succ]
                refine wpAnyL_take (i := 5) 177 (v := .bool false) rfl rfl (by kernel_rfl) (by kernel_rfl) (by kernel_rfl) (by kernel_rfl) (by kernel_rfl) (by kernel_rfl) (fun _ _ _ h => h) hSt (by rfl) (by intro w' hSw; obtain ⟨y1, y2⟩ := hSw; go_simp <;> with_reducible rfl) ?_
                simp only [Act.put, List.setIfInBounds_toArray, List.set_cons_zero, List.set_cons_succ]
                refine wpAnyL_take (i := 6) 178 (v := .pointer (some ⟨qs, 0, none⟩)) rfl rfl (by kernel_rfl) (by kernel_rfl) (by kernel_rfl) (by kernel_rfl) (by kernel_rfl) (by kernel_rfl) (fun _ _ _ h => h) hSt (by rfl) (by intro w' hSw; obtain ⟨y1, y2⟩ := hSw; go_simp <;> with_reducible rfl) ?_
                simp only [Act.put, List.setIfInBounds_toArray, List.set_cons_zero, List.set_cons_succ]
                refine wpAnyL_take (i := 8) 180 (v := .int .i64 K2.sp) rfl rfl (by kernel_rfl) (by kernel_rfl) (by kernel_rfl) (by kernel_rfl) (by kernel_rfl) (by kernel_rfl) (fun _ _ _ h => h) hSt (by rfl) (by intro w' hSw; obtain ⟨y1, y2⟩ := hSw; go_simp <;> with_reducible rfl) ?_
                simp only [Act.put, List.setIfInBounds_toArray, List.set_cons_zero, List.set_cons_succ]
                have hSp := sspills HFt.out.pl.sa
                refine wpAnyL_one (i := 7) (by kernel_rfl) rfl (fun Ka hKa => ?_)
                go_simp
                refine Calls.mono hSp ?_
                rintro r w5 ⟨rfl, hw5⟩
                rw [hw5]
                refine hKa.out _ _ (fun _ => hSt) ?_
                clear hKa Ka hw5 hSp
                try simp only [Act.put, List.setIfInBounds_toArray, List.set_cons_zero, List.set_cons_succ]
                refine wpAnyL_take (i := 9) 181 (v := .bool false) rfl rfl (by kernel_rfl) (by kernel_rfl) (by kernel_rfl) (by kernel_rfl) (by kernel_rfl) (by kernel_rfl) (fun _ _ _ h => h) hSt (by rfl) (by intro w' hSw; obtain ⟨y1, y2⟩ := hSw; go_simp <;> with_reducible rfl) ?_
                simp only [Act.put, List.setIfInBounds_toArray, List.set_cons_zero, List.set_cons_succ]
                refine wpAnyL_take (i := 10) 182 (v := .bool false) rfl rfl (by kernel_rfl) (by kernel_rfl) (by kernel_rfl) (by kernel_rfl) (by kernel_rfl) (by kernel_rfl) (fun _ _ _ h => h) hSt (by rfl) (by intro w' hSw; obtain ⟨y1, y2⟩ := hSw; go_simp <;> with_reducible rfl) ?_
                simp only [Act.put, List.setIfInBounds_toArray, List.set_cons_zero, List.set_cons_succ]
                refine wpAnyL_done (by kernel_rfl) ?_ _
                have hNb : Calls Tryz.prog 16 #[.pointer (some ⟨qs, 0, none⟩), .agg #[.map (some (b)), v]] wt fun r w' => r = .returned (.bool true) ∧ Below wt.heap.size wt w' := lnumbers HFt.out.pl.sa HFt.out.pl.mp (by obtain ⟨a, c, e⟩ := HFt.out.pl.row.shape; exact ⟨a, _, c, e⟩)
                obtain ⟨_, _, _, q0, q1, _, _⟩ := HFt.out.cells
                clear hSt
                go_wp2_with (go_at_call 16; refine Calls.mono hNb ?_; rintro r w8 ⟨rfl, e1⟩; have HB8 : Hid (Below wt.heap.size wt w8) := e1; clear e1 hNb)
                go_roundw
                case rel => exact ⟨k + 1, K2, hlt, h80, by go_num, by rfl, ⟨⟨_, _, _, (HFt.out.new HB8.out).pl⟩, HSq.out.2.1, HSq.out.2.2⟩⟩
                case measure => simp [intOf]; omega
            · have hn4 := k4
              by_cases k5 : yk = 5
              · subst k5
                as_aux_lemma =>
                  have hG := sget (n := yn) HX.out.pl.sa HX.out.pl.low (by omega) hin (by have := HE.out.sp; omega)
                  rw [hf] at hG
                  change Calls _ _ _ _ (fun r w' => r = .returned (.tuple #[.string (str []), .int .i64 2]) ∧ _) at hG
                  have hst : (str []).toList = [] := str_toList _
                  go_upto_region 25 with (go_at_call 7; refine Calls.mono hG ?_; rintro r w6 ⟨rfl, e1⟩; have HX6 : Hid (PlX w qs B bm ab y w6 Xm b v (K.getK yn) (256 * k + 16) K.f K.near) := HX.out.call e1; clear e1 hG)
                  clear d0 d1 d2 m0 m1 g0 g1 hlk
                  have HF : Hid (PlX w qs B bm ab y w6 Xm b v K (256 * k + 256) K.f K.near) := by
                    have h := HX6.out.mono (d := 256 * k + 256) (by omega)
                    have e1 : K.getK yn = K := by unfold St.getK; rw [hf]
                    rw [e1] at h
                    exact h
                  have HSq : Hid ((K).sp = K.sp + 0 ∧ (K).bud = bud ∧ (K).sp ≤ 16 * (k + 1)) := ⟨rfl, HE.out.bud, by have h1 := HE.out.sp; omega⟩
                  have hsb : K.sp ≤ 16 * 80 := by have := HE.out.sp; omega
                  have hgb : 0 ≤ 16 * 81 := by have := HSq.out.1; have := HSq.out.2.2; omega
                  go_upto_region 38 with (fail)
                  have hE8 : (K.sp : Int) + ((0 : Nat) : Int) = (((K).sp : Nat) : Int) := by rw [HSq.out.1]; simp
                  try simp only [Int.add_zero, Int.natCast_zero, Int.ofNat_zero] at hE8
                  try rw [hE8]
                  clear hE8 hsb hgb
                  obtain ⟨K2, hK2⟩ : ∃ K2, K = K2 := ⟨_, rfl⟩
                  rw [hK2] at HF HSq ⊢
                  clear hK2
                  have hsp2 : K2.sp ≤ 100000 := by have := HSq.out.2.2; omega
                  obtain ⟨T2, hT2⟩ : ∃ T2, totL K2.f K2.near = T2 := ⟨_, rfl⟩
                  have hok2 := HF.out.pl.sa.ok
                  have hby : byt (heldO K2.f K2.near) K2.near = T2 := by rw [← hT2]; exact held_tot K2.f K2.near K2.near (fun _ h => h)
                  obtain ⟨Wd, hWd⟩ : ∃ Wd, (w6).drew = Wd := ⟨_, rfl⟩
                  have bd : Below (w6).heap.size (w6) Wd := by rw [← hWd]; exact Below.drew (Below.refl _ _)
                  have HFd : Hid (PlX w qs B bm ab y Wd (Xm) (b) (v) K2 (256 * k + 256) K2.f K2.near) := HF.out.new bd
                  have hUd := sused HFd.out.pl.sa
                  rw [hby] at hUd
                  have HUm : Hid (∀ V, Below Wd.heap.size Wd V → Calls Tryz.prog 14 #[.agg #[.map (some (b)), v]] V fun r w' => r = .returned (.int .i64 T2) ∧ Below V.heap.size V w') := fun V hV => by
                    have h2 := HFd.out.new hV
                    have := mused h2.pl.mp h2.pl.row.toS (by have := hok2.few; omega) (fun x hx => by have := hok2.sup x (hok2.sub x hx); exact i6_few this.1 this.2) (st_lenO hok2)
                    rw [hT2] at this
                    exact this
                  have htb : T2 ≤ 16 * 140737488351232 := by
                    rw [← hT2]
                    refine Nat.le_trans (totL_le K2.near (fun x _ => st_lenO hok2 x)) (Nat.mul_le_mul_right _ hok2.few)
                  obtain ⟨_, _, _, q0, q1, _, _⟩ := HFd.out.cells
                  have hS : Wd.cell? ⟨bm, 0, none⟩ = some (.map (some (b))) ∧ Wd.cell? ⟨bm, 1, none⟩ = some (v) := ⟨q0, q1⟩
                  clear q0 q1 bd hby hT2 hok2
                  refine wp_calmD ?_
                  refine wp_region_L [] (fun W : World => W.cell? ⟨bm, 0, none⟩ = some (.map (some (b))) ∧ W.cell? ⟨bm, 1, none⟩ = some (v)) (by kernel_rfl) ?_
                  rw [hWd]
                  clear hWd
                  refine wpAnyL_take (i := 0) 172 (v := .pointer (some ⟨qs, 0, none⟩)) rfl rfl (by kernel_rfl) (by kernel_rfl) (by kernel_rfl) (by kernel_rfl) (by kernel_rfl) (by kernel_rfl) (fun _ _ _ h => h) hS (by rfl) (by intro w' hSw; obtain ⟨y1, y2⟩ := hSw; go_simp <;> with_reducible rfl) ?_
                  simp only [Act.put, List.setIfInBounds_toArray, List.set_cons_zero, List.set_cons_succ]
                  refine wpAnyL_take (i := 2) 174 (v := .agg #[.map (some (b)), v]) rfl rfl (by kernel_rfl) (by kernel_rfl) (by kernel_rfl) (by kernel_rfl) (by kernel_rfl) (by kernel_rfl) (fun _ _ _ h => h) hS (by rfl) (by intro w' hSw; obtain ⟨y1, y2⟩ := hSw; go_simp <;> with_reducible rfl) ?_
                  simp only [Act.put, List.setIfInBounds_toArray, List.set_cons_zero, List.set_cons_succ]
                  refine wpAnyL_one (i := 1) (by kernel_rfl) rfl (fun Ka hKa => ?_)
                  go_simp
                  refine Calls.mono hUd ?_
                  rintro r w5 ⟨rfl, hw5⟩
                  rw [hw5]
                  refine hKa.out _ _ (fun _ => hS) ?_
                  clear hKa Ka hw5 hUd
                  try simp only [Act.put, List.setIfInBounds_toArray, List.set_cons_zero, List.set_cons_succ]
                  have hUm := HUm.out Wd (Below.refl _ _)
                  refine wpAnyL_one (i := 3) (by kernel_rfl) rfl (fun Ka hKa => ?_)
                  go_simp
                  refine Calls.mono hUm ?_
                  rintro r wt ⟨rfl, et⟩
                  have HFt : Hid (PlX w qs B bm ab y wt (Xm) (b) (v) K2 (256 * k + 256) K2.f K2.near) := HFd.out.new et
                  obtain ⟨_, _, _, q0, q1, _, _⟩ := HFt.out.cells
                  have hSt : wt.cell? ⟨bm, 0, none⟩ = some (.map (some (b))) ∧ wt.cell? ⟨bm, 1, none⟩ = some (v) := ⟨q0, q1⟩
                  refine hKa.out _ _ (fun _ => hSt) ?_
                  clear hKa Ka et hUm hS q0 q1
                  try simp only [Act.put, List.setIfInBounds_toArray, List.set_cons_zero, List.set_cons_succ]
                  refine wpAnyL_take (i := 4) 176 (v := .bool false) rfl rfl (by kernel_rfl) (by kernel_rfl) (by kernel_rfl) (by kernel_rfl) (by kernel_rfl) (by kernel_rfl) (fun _ _ _ h => h) hSt (by rfl) (by intro w' hSw; obtain ⟨y1, y2⟩ := hSw; go_simp <;> with_reducible rfl) ?_
                  simp only [Act.put, List.setIfInBounds_toArray, List.set_cons_zero, List.set_cons_succ]
                  refine wpAnyL_take (i := 5) 177 (v := .bool false) rfl rfl (by kernel_rfl) (by kernel_rfl) (by kernel_rfl) (by kernel_rfl) (by kernel_rfl) (by kernel_rfl) (fun _ _ _ h => h) hSt (by rfl) (by intro w' hSw; obtain ⟨y1, y2⟩ := hSw; go_simp <;> with_reducible rfl) ?_
                  simp only [Act.put, List.setIfInBounds_toArray, List.set_cons_zero, List.set_cons_succ]
                  refine wpAnyL_take (i := 6) 178 (v := .pointer (some ⟨qs, 0, none⟩)) rfl rfl (by kernel_rfl) (by kernel_rfl) (by kernel_rfl) (by kernel_rfl) (by kernel_rfl) (by kernel_rfl) (fun _ _ _ h => h) hSt (by rfl) (by intro w' hSw; obtain ⟨y1, y2⟩ := hSw; go_simp <;> with_reducible rfl) ?_
                  simp only [Act.put, List.setIfInBounds_toArray, List.set_cons_zero, List.set_cons_succ]
                  refine wpAnyL_take (i := 8) 180 (v := .int .i64 K2.sp) rfl rfl (by kernel_rfl) (by kernel_rfl) (by kernel_rfl) (by kernel_rfl) (by kernel_rfl) (by kernel_rfl) (fun _ _ _ h => h) hSt (by rfl) (by intro w' hSw; obtain ⟨y1, y2⟩ := hSw; go_simp <;> with_reducible rfl) ?_
                  simp only [Act.put, List.setIfInBounds_toArray, List.set_cons_zero, List.set_cons_succ]
                  have hSp := sspills HFt.out.pl.sa
                  refine wpAnyL_one (i := 7) (by kernel_rfl) rfl (fun Ka hKa => ?_)
                  go_simp
                  refine Calls.mono hSp ?_
                  rintro r w5 ⟨rfl, hw5⟩
                  rw [hw5]
                  refine hKa.out _ _ (fun _ => hSt) ?_
                  clear hKa Ka hw5 hSp
                  try simp only [Act.put, List.setIfInBounds_toArray, List.set_cons_zero, List.set_cons_succ]
                  refine wpAnyL_take (i := 9) 181 (v := .bool false) rfl rfl (by kernel_rfl) (by kernel_rfl) (by kernel_rfl) (by kernel_rfl) (by kernel_rfl) (by kernel_rfl) (fun _ _ _ h => h) hSt (by rfl) (by intro w' hSw; obtain ⟨y1, y2⟩ := hSw; go_simp <;> with_reducible rfl) ?_
                  simp only [Act.put, List.setIfInBounds_toArray, List.set_cons_zero, List.set_cons_succ]
                  refine wpAnyL_take (i := 10) 182 (v := .bool false) rfl rfl (by kernel_rfl) (by kernel_rfl) (by kernel_rfl) (by kernel_rfl) (by kernel_rfl) (by kernel_rfl) (fun _ _ _ h => h) hSt (by rfl) (by intro w' hSw; obtain ⟨y1, y2⟩ := hSw; go_simp <;> with_reducible rfl) ?_
                  simp only [Act.put, List.setIfInBounds_toArray, List.set_cons_zero, List.set_cons_succ]
                  refine wpAnyL_done (by kernel_rfl) ?_ _
                  have hNb : Calls Tryz.prog 16 #[.pointer (some ⟨qs, 0, none⟩), .agg #[.map (some (b)), v]] wt fun r w' => r = .returned (.bool true) ∧ Below wt.heap.size wt w' := lnumbers HFt.out.pl.sa HFt.out.pl.mp (by obtain ⟨a, c, e⟩ := HFt.out.pl.row.shape; exact ⟨a, _, c, e⟩)
                  obtain ⟨_, _, _, q0, q1, _, _⟩ := HFt.out.cells
                  clear hSt
                  go_wp2_with (go_at_call 16; refine Calls.mono hNb ?_; rintro r w8 ⟨rfl, e1⟩; have HB8 : Hid (Below wt.heap.size wt w8) := e1; clear e1 hNb)
                  go_roundw
                  case rel => exact ⟨k + 1, K2, hlt, h80, by go_num, by rfl, ⟨⟨_, _, _, (HFt.out.new HB8.out).pl⟩, HSq.out.2.1, HSq.out.2.2⟩⟩
                  case measure => simp [intOf]; omega
              · have hn5 := k5
                by_cases k6 : yk = 6
                · subst k6
                  as_aux_lemma =>
                    have hG := sget (n := yn) HX.out.pl.sa HX.out.pl.low (by omega) hin (by have := HE.out.sp; omega)
                    rw [hf] at hG
                    change Calls _ _ _ _ (fun r w' => r = .returned (.tuple #[.string (str []), .int .i64 2]) ∧ _) at hG
                    have hst : (str []).toList = [] := str_toList _
                    go_upto_region 25 with (go_at_call 7; refine Calls.mono hG ?_; rintro r w6 ⟨rfl, e1⟩; have HX6 : Hid (PlX w qs B bm ab y w6 Xm b v (K.getK yn) (256 * k + 16) K.f K.near) := HX.out.call e1; clear e1 hG)
                    clear d0 d1 d2 m0 m1 g0 g1 hlk
                    have HF : Hid (PlX w qs B bm ab y w6 Xm b v K (256 * k + 256) K.f K.near) := by
                      have h := HX6.out.mono (d := 256 * k + 256) (by omega)
                      have e1 : K.getK yn = K := by unfold St.getK; rw [hf]
                      rw [e1] at h
                      exact h
                    have HSq : Hid ((K).sp = K.sp + 0 ∧ (K).bud = bud ∧ (K).sp ≤ 16 * (k + 1)) := ⟨rfl, HE.out.bud, by have h1 := HE.out.sp; omega⟩
                    have hsb : K.sp ≤ 16 * 80 := by have := HE.out.sp; omega
                    have hgb : 0 ≤ 16 * 81 := by have := HSq.out.1; have := HSq.out.2.2; omega
                    go_upto_region 38 with (fail)
                    have hE8 : (K.sp : Int) + ((0 : Nat) : Int) = (((K).sp : Nat) : Int) := by rw [HSq.out.1]; simp
                    try simp only [Int.add_zero, Int.natCast_zero, Int.ofNat_zero] at hE8
                    try rw [hE8]
                    clear hE8 hsb hgb
                    obtain ⟨K2, hK2⟩ : ∃ K2, K = K2 := ⟨_, rfl⟩
                    rw [hK2] at HF HSq ⊢
                    clear hK2
                    have hsp2 : K2.sp ≤ 100000 := by have := HSq.out.2.2; omega
                    obtain ⟨T2, hT2⟩ : ∃ T2, totL K2.f K2.near = T2 := ⟨_, rfl⟩
                    have hok2 := HF.out.pl.sa.ok
                    have hby : byt (heldO K2.f K2.near) K2.near = T2 := by rw [← hT2]; exact held_tot K2.f K2.near K2.near (fun _ h => h)
                    obtain ⟨Wd, hWd⟩ : ∃ Wd, (w6).drew = Wd := ⟨_, rfl⟩
                    have bd : Below (w6).heap.size (w6) Wd := by rw [← hWd]; exact Below.drew (Below.refl _ _)
                    have HFd : Hid (PlX w qs B bm ab y Wd (Xm) (b) (v) K2 (256 * k + 256) K2.f K2.near) := HF.out.new bd
                    have hUd := sused HFd.out.pl.sa
                    rw [hby] at hUd
                    have HUm : Hid (∀ V, Below Wd.heap.size Wd V → Calls Tryz.prog 14 #[.agg #[.map (some (b)), v]] V fun r w' => r = .returned (.int .i64 T2) ∧ Below V.heap.size V w') := fun V hV => by
                      have h2 := HFd.out.new hV
                      have := mused h2.pl.mp h2.pl.row.toS (by have := hok2.few; omega) (fun x hx => by have := hok2.sup x (hok2.sub x hx); exact i6_few this.1 this.2) (st_lenO hok2)
                      rw [hT2] at this
                      exact this
                    have htb : T2 ≤ 16 * 140737488351232 := by
                      rw [← hT2]
                      refine Nat.le_trans (totL_le K2.near (fun x _ => st_lenO hok2 x)) (Nat.mul_le_mul_right _ hok2.few)
                    obtain ⟨_, _, _, q0, q1, _, _⟩ := HFd.out.cells
                    have hS : Wd.cell? ⟨bm, 0, none⟩ = some (.map (some (b))) ∧ Wd.cell? ⟨bm, 1, none⟩ = some (v) := ⟨q0, q1⟩
                    clear q0 q1 bd hby hT2 hok2
                    refine wp_calmD ?_
                    refine wp_region_L [] (fun W : World => W.cell? ⟨bm, 0, none⟩ = some (.map (some (b))) ∧ W.cell? ⟨bm, 1, none⟩ = some (v)) (by kernel_rfl) ?_
                    rw [hWd]
                    clear hWd
                    refine wpAnyL_take (i := 0) 172 (v := .pointer (some ⟨qs, 0, none⟩)) rfl rfl (by kernel_rfl) (by kernel_rfl) (by kernel_rfl) (by kernel_rfl) (by kernel_rfl) (by kernel_rfl) (fun _ _ _ h => h) hS (by rfl) (by intro w' hSw; obtain ⟨y1, y2⟩ := hSw; go_simp <;> with_reducible rfl) ?_
                    simp only [Act.put, List.setIfInBounds_toArray, List.set_cons_zero, List.set_cons_succ]
                    refine wpAnyL_take (i := 2) 174 (v := .agg #[.map (some (b)), v]) rfl rfl (by kernel_rfl) (by kernel_rfl) (by kernel_rfl) (by kernel_rfl) (by kernel_rfl) (by kernel_rfl) (fun _ _ _ h => h) hS (by rfl) (by intro w' hSw; obtain ⟨y1, y2⟩ := hSw; go_simp <;> with_reducible rfl) ?_
                    simp only [Act.put, List.setIfInBounds_toArray, List.set_cons_zero, List.set_cons_succ]
                    refine wpAnyL_one (i := 1) (by kernel_rfl) rfl (fun Ka hKa => ?_)
                    go_simp
                    refine Calls.mono hUd ?_
                    rintro r w5 ⟨rfl, hw5⟩
                    rw [hw5]
                    refine hKa.out _ _ (fun _ => hS) ?_
                    clear hKa Ka hw5 hUd
                    try simp only [Act.put, List.setIfInBounds_toArray, List.set_cons_zero, List.set_cons_succ]
                    have hUm := HUm.out Wd (Below.refl _ _)
                    refine wpAnyL_one (i := 3) (by kernel_rfl) rfl (fun Ka hKa => ?_)
                    go_simp
                    refine Calls.mono hUm ?_
                    rintro r wt ⟨rfl, et⟩
                    have HFt : Hid (PlX w qs B bm ab y wt (Xm) (b) (v) K2 (256 * k + 256) K2.f K2.near) := HFd.out.new et
                    obtain ⟨_, _, _, q0, q1, _, _⟩ := HFt.out.cells
                    have hSt : wt.cell? ⟨bm, 0, none⟩ = some (.map (some (b))) ∧ wt.cell? ⟨bm, 1, none⟩ = some (v) := ⟨q0, q1⟩
                    refine hKa.out _ _ (fun _ => hSt) ?_
                    clear hKa Ka et hUm hS q0 q1
                    try simp only [Act.put, List.setIfInBounds_toArray, List.set_cons_zero, List.set_cons_succ]
                    refine wpAnyL_take (i := 4) 176 (v := .bool false) rfl rfl (by kernel_rfl) (by kernel_rfl) (by kernel_rfl) (by kernel_rfl) (by kernel_rfl) (by kernel_rfl) (fun _ _ _ h => h) hSt (by rfl) (by intro w' hSw; obtain ⟨y1, y2⟩ := hSw; go_simp <;> with_reducible rfl) ?_
                    simp only [Act.put, List.setIfInBounds_toArray, List.set_cons_zero, List.set_cons_succ]
                    refine wpAnyL_take (i := 5) 177 (v := .bool false) rfl rfl (by kernel_rfl) (by kernel_rfl) (by kernel_rfl) (by kernel_rfl) (by kernel_rfl) (by kernel_rfl) (fun _ _ _ h => h) hSt (by rfl) (by intro w' hSw; obtain ⟨y1, y2⟩ := hSw; go_simp <;> with_reducible rfl) ?_
                    simp only [Act.put, List.setIfInBounds_toArray, List.set_cons_zero, List.set_cons_succ]
                    refine wpAnyL_take (i := 6) 178 (v := .pointer (some ⟨qs, 0, none⟩)) rfl rfl (by kernel_rfl) (by kernel_rfl) (by kernel_rfl) (by kernel_rfl) (by kernel_rfl) (by kernel_rfl) (fun _ _ _ h => h) hSt (by rfl) (by intro w' hSw; obtain ⟨y1, y2⟩ := hSw; go_simp <;> with_reducible rfl) ?_
                    simp only [Act.put, List.setIfInBounds_toArray, List.set_cons_zero, List.set_cons_succ]
                    refine wpAnyL_take (i := 8) 180 (v := .int .i64 K2.sp) rfl rfl (by kernel_rfl) (by kernel_rfl) (by kernel_rfl) (by kernel_rfl) (by kernel_rfl) (by kernel_rfl) (fun _ _ _ h => h) hSt (by rfl) (by intro w' hSw; obtain ⟨y1, y2⟩ := hSw; go_simp <;> with_reducible rfl) ?_
                    simp only [Act.put, List.setIfInBounds_toArray, List.set_cons_zero, List.set_cons_succ]
                    have hSp := sspills HFt.out.pl.sa
                    refine wpAnyL_one (i := 7) (by kernel_rfl) rfl (fun Ka hKa => ?_)
                    go_simp
                    refine Calls.mono hSp ?_
                    rintro r w5 ⟨rfl, hw5⟩
                    rw [hw5]
                    refine hKa.out _ _ (fun _ => hSt) ?_
                    clear hKa Ka hw5 hSp
                    try simp only [Act.put, List.setIfInBounds_toArray, List.set_cons_zero, List.set_cons_succ]
                    refine wpAnyL_take (i := 9) 181 (v := .bool false) rfl rfl (by kernel_rfl) (by kernel_rfl) (by kernel_rfl) (by kernel_rfl) (by kernel_rfl) (by kernel_rfl) (fun _ _ _ h => h) hSt (by rfl) (by intro w' hSw; obtain ⟨y1, y2⟩ := hSw; go_simp <;> with_reducible rfl) ?_
                    simp only [Act.put, List.setIfInBounds_toArray, List.set_cons_zero, List.set_cons_succ]
                    refine wpAnyL_take (i := 10) 182 (v := .bool false) rfl rfl (by kernel_rfl) (by kernel_rfl) (by kernel_rfl) (by kernel_rfl) (by kernel_rfl) (by kernel_rfl) (fun _ _ _ h => h) hSt (by rfl) (by intro w' hSw; obtain ⟨y1, y2⟩ := hSw; go_simp <;> with_reducible rfl) ?_
                    simp only [Act.put, List.setIfInBounds_toArray, List.set_cons_zero, List.set_cons_succ]
                    refine wpAnyL_done (by kernel_rfl) ?_ _
                    have hNb : Calls Tryz.prog 16 #[.pointer (some ⟨qs, 0, none⟩), .agg #[.map (some (b)), v]] wt fun r w' => r = .returned (.bool true) ∧ Below wt.heap.size wt w' := lnumbers HFt.out.pl.sa HFt.out.pl.mp (by obtain ⟨a, c, e⟩ := HFt.out.pl.row.shape; exact ⟨a, _, c, e⟩)
                    obtain ⟨_, _, _, q0, q1, _, _⟩ := HFt.out.cells
                    clear hSt
                    go_wp2_with (go_at_call 16; refine Calls.mono hNb ?_; rintro r w8 ⟨rfl, e1⟩; have HB8 : Hid (Below wt.heap.size wt w8) := e1; clear e1 hNb)
                    go_roundw
                    case rel => exact ⟨k + 1, K2, hlt, h80, by go_num, by rfl, ⟨⟨_, _, _, (HFt.out.new HB8.out).pl⟩, HSq.out.2.1, HSq.out.2.2⟩⟩
                    case measure => simp [intOf]; omega
                · have hn6 := k6
                  by_cases k7 : yk = 7
                  · subst k7
                    as_aux_lemma =>
                      have hG := sdrop (n := yn) HX.out.pl.sa HX.out.pl.low (by omega) hin
                      rw [hf] at hG
                      change Calls _ _ _ _ (fun r w' => r = .returned (.bool false) ∧ _) at hG
                      go_upto_region 32 with (go_at_call 9; refine Calls.mono hG ?_; rintro r w6 ⟨rfl, e1⟩; have HX6 : Hid (PlX w qs B bm ab y w6 Xm b v (K.dropK yn) (256 * k + 16) K.f K.near) := HX.out.call e1; clear e1 hG)
                      clear d0 d1 d2 m0 m1 g0 g1 hlk
                      obtain ⟨w7, hrun, hm7, hf7⟩ := HX6.out.pl.mp.del mtS hin 0
                      have HX7 : Hid (PlX w qs B bm ab y w7 Xm b v (K.dropK yn) (256 * k + 16) (cutO' K.f yn) K.near) := HX6.out.upd hf7 hm7
                      obtain ⟨d0, d1, d2, m0, m1, g0, g1⟩ := HX6.out.cells
                      rw [hst0.out] at d0 d1 d2
                      simp only at d0 d1 d2
                      clear hm7 hf7
                      go_upto_region 33 with (fail)
                      clear d0 d1 d2 m0 m1 g0 g1 hrun
                      obtain ⟨d0, d1, d2, m0, m1, g0, g1⟩ := HX7.out.cells
                      rw [hst0.out] at d0 d1 d2
                      simp only at d0 d1 d2
                      have hWo := mwithout (n := yn) HX7.out.pl.row.toS (by have := HX.out.pl.sa.ok.few; omega)
                      go_upto_region 37 with (go_at_call 10; refine Calls.mono hWo ?_; rintro r w8 ⟨v7, rfl, e1, e2⟩; obtain ⟨a7, l7, c7, rfl⟩ : ∃ a l c, v7 = .slice a l c := (by obtain ⟨a, c, e⟩ := e1.shape; exact ⟨a, _, c, e⟩); have HX8 : Hid (PlX w qs B bm ab y w8 Xm b v (K.dropK yn) (256 * k + 16) (cutO' K.f yn) K.near) := HX7.out.new e2; have HR8 : Hid (NrO w8 w.heap.size (.slice a7 l7 c7) (woI K.near yn)) := e1.low HX7.out.pl.low; obtain ⟨p0, p1, p2, p3, p4, p5, p6⟩ := HX8.out.cells; rw [hst0.out] at p0 p1 p2; simp only at p0 p1 p2; clear e1 e2 hWo)
                      clear d0 d1 d2 m0 m1 g0 g1 p0 p1 p2 p3 p4 p5 p6
                      have HF : Hid (PlX w qs B bm ab y (w8.setCell ⟨bm, 1, none⟩ (.slice a7 l7 c7)) Xm b (.slice a7 l7 c7) K (256 * k + 256) K.f K.near) := by
                        have h := (HX8.out.set1 HR8.out).mono (d := 256 * k + 256) (by omega)
                        have e1 : K.dropK yn = K := by unfold St.dropK; rw [hf]; rfl
                        have e2 : woI K.near yn = K.near := woI_id (fun hh => by have := HX.out.pl.sa.ok.sub yn hh; rw [hf] at this; cases this)
                        rw [e1, e2, cutO_self hf] at h
                        exact h
                      generalize w8.setCell ⟨bm, 1, none⟩ (.slice a7 l7 c7) = wF at HF ⊢
                      have HSq : Hid ((K).sp = K.sp + 0 ∧ (K).bud = bud ∧ (K).sp ≤ 16 * (k + 1)) := ⟨rfl, HE.out.bud, by have h1 := HE.out.sp; omega⟩
                      have hsb : K.sp ≤ 16 * 80 := by have := HE.out.sp; omega
                      have hgb : 0 ≤ 16 * 81 := by have := HSq.out.1; have := HSq.out.2.2; omega
                      go_upto_region 38 with (fail)
                      have hE8 : (K.sp : Int) + ((0 : Nat) : Int) = (((K).sp : Nat) : Int) := by rw [HSq.out.1]; simp
                      try simp only [Int.add_zero, Int.natCast_zero, Int.ofNat_zero] at hE8
                      try rw [hE8]
                      clear hE8 hsb hgb
                      obtain ⟨K2, hK2⟩ : ∃ K2, K = K2 := ⟨_, rfl⟩
                      rw [hK2] at HF HSq ⊢
                      clear hK2
                      have hsp2 : K2.sp ≤ 100000 := by have := HSq.out.2.2; omega
                      obtain ⟨T2, hT2⟩ : ∃ T2, totL K2.f K2.near = T2 := ⟨_, rfl⟩
                      have hok2 := HF.out.pl.sa.ok
                      have hby : byt (heldO K2.f K2.near) K2.near = T2 := by rw [← hT2]; exact held_tot K2.f K2.near K2.near (fun _ h => h)
                      obtain ⟨Wd, hWd⟩ : ∃ Wd, (wF).drew = Wd := ⟨_, rfl⟩
                      have bd : Below (wF).heap.size (wF) Wd := by rw [← hWd]; exact Below.drew (Below.refl _ _)
                      have HFd : Hid (PlX w qs B bm ab y Wd (Xm) (b) (.slice a7 l7 c7) K2 (256 * k + 256) K2.f K2.near) := HF.out.new bd
                      have hUd := sused HFd.out.pl.sa
                      rw [hby] at hUd
                      have HUm : Hid (∀ V, Below Wd.heap.size Wd V → Calls Tryz.prog 14 #[.agg #[.map (some (b)), .slice a7 l7 c7]] V fun r w' => r = .returned (.int .i64 T2) ∧ Below V.heap.size V w') := fun V hV => by
                        have h2 := HFd.out.new hV
                        have := mused h2.pl.mp h2.pl.row.toS (by have := hok2.few; omega) (fun x hx => by have := hok2.sup x (hok2.sub x hx); exact i6_few this.1 this.2) (st_lenO hok2)
                        rw [hT2] at this
                        exact this
                      have htb : T2 ≤ 16 * 140737488351232 := by
                        rw [← hT2]
                        refine Nat.le_trans (totL_le K2.near (fun x _ => st_lenO hok2 x)) (Nat.mul_le_mul_right _ hok2.few)
                      obtain ⟨_, _, _, q0, q1, _, _⟩ := HFd.out.cells
                      have hS : Wd.cell? ⟨bm, 0, none⟩ = some (.map (some (b))) ∧ Wd.cell? ⟨bm, 1, none⟩ = some (.slice a7 l7 c7) := ⟨q0, q1⟩
                      clear q0 q1 bd hby hT2 hok2
                      refine wp_calmD ?_
                      refine wp_region_L [] (fun W : World => W.cell? ⟨bm, 0, none⟩ = some (.map (some (b))) ∧ W.cell? ⟨bm, 1, none⟩ = some (.slice a7 l7 c7)) (by kernel_rfl) ?_
                      rw [hWd]
                      clear hWd
                      refine wpAnyL_take (i := 0) 172 (v := .pointer (some ⟨qs, 0, none⟩)) rfl rfl (by kernel_rfl) (by kernel_rfl) (by kernel_rfl) (by kernel_rfl) (by kernel_rfl) (by kernel_rfl) (fun _ _ _ h => h) hS (by rfl) (by intro w' hSw; obtain ⟨y1, y2⟩ := hSw; go_simp <;> with_reducible rfl) ?_
                      simp only [Act.put, List.setIfInBounds_toArray, List.set_cons_zero, List.set_cons_succ]
                      refine wpAnyL_take (i := 2) 174 (v := .agg #[.map (some (b)), .slice a7 l7 c7]) rfl rfl (by kernel_rfl) (by kernel_rfl) (by kernel_rfl) (by kernel_rfl) (by kernel_rfl) (by kernel_rfl) (fun _ _ _ h => h) hS (by rfl) (by intro w' hSw; obtain ⟨y1, y2⟩ := hSw; go_simp <;> with_reducible rfl) ?_
                      simp only [Act.put, List.setIfInBounds_toArray, List.set_cons_zero, List.set_cons_succ]
                      refine wpAnyL_one (i := 1) (by kernel_rfl) rfl (fun Ka hKa => ?_)
                      go_simp
                      refine Calls.mono hUd ?_
                      rintro r w5 ⟨rfl, hw5⟩
                      rw [hw5]
                      refine hKa.out _ _ (fun _ => hS) ?_
                      clear hKa Ka hw5 hUd
                      try simp only [Act.put, List.setIfInBounds_toArray, List.set_cons_zero, List.set_cons_succ]
                      have hUm := HUm.out Wd (Below.refl _ _)
                      refine wpAnyL_one (i := 3) (by kernel_rfl) rfl (fun Ka hKa => ?_)
                      go_simp
                      refine Calls.mono hUm ?_
                      rintro r wt ⟨rfl, et⟩
                      have HFt : Hid (PlX w qs B bm ab y wt (Xm) (b) (.slice a7 l7 c7) K2 (256 * k + 256) K2.f K2.near) := HFd.out.new et
                      obtain ⟨_, _, _, q0, q1, _, _⟩ := HFt.out.cells
                      have hSt : wt.cell? ⟨bm, 0, none⟩ = some (.map (some (b))) ∧ wt.cell? ⟨bm, 1, none⟩ = some (.slice a7 l7 c7) := ⟨q0, q1⟩
                      refine hKa.out _ _ (fun _ => hSt) ?_
                      clear hKa Ka et hUm hS q0 q1
                      try simp only [Act.put, List.setIfInBounds_toArray, List.set_cons_zero, List.set_cons_succ]
                      refine wpAnyL_take (i := 4) 176 (v := .bool false) rfl rfl (by kernel_rfl) (by kernel_rfl) (by kernel_rfl) (by kernel_rfl) (by kernel_rfl) (by kernel_rfl) (fun _ _ _ h => h) hSt (by rfl) (by intro w' hSw; obtain ⟨y1, y2⟩ := hSw; go_simp <;> with_reducible rfl) ?_
                      simp only [Act.put, List.setIfInBounds_toArray, List.set_cons_zero, List.set_cons_succ]
                      refine wpAnyL_take (i := 5) 177 (v := .bool false) rfl rfl (by kernel_rfl) (by kernel_rfl) (by kernel_rfl) (by kernel_rfl) (by kernel_rfl) (by kernel_rfl) (fun _ _ _ h => h) hSt (by rfl) (by intro w' hSw; obtain ⟨y1, y2⟩ := hSw; go_simp <;> with_reducible rfl) ?_
                      simp only [Act.put, List.setIfInBounds_toArray, List.set_cons_zero, List.set_cons_succ]
                      refine wpAnyL_take (i := 6) 178 (v := .pointer (some ⟨qs, 0, none⟩)) rfl rfl (by kernel_rfl) (by kernel_rfl) (by kernel_rfl) (by kernel_rfl) (by kernel_rfl) (by kernel_rfl) (fun _ _ _ h => h) hSt (by rfl) (by intro w' hSw; obtain ⟨y1, y2⟩ := hSw; go_simp <;> with_reducible rfl) ?_
                      simp only [Act.put, List.setIfInBounds_toArray, List.set_cons_zero, List.set_cons_succ]
                      refine wpAnyL_take (i := 8) 180 (v := .int .i64 K2.sp) rfl rfl (by kernel_rfl) (by kernel_rfl) (by kernel_rfl) (by kernel_rfl) (by kernel_rfl) (by kernel_rfl) (fun _ _ _ h => h) hSt (by rfl) (by intro w' hSw; obtain ⟨y1, y2⟩ := hSw; go_simp <;> with_reducible rfl) ?_
                      simp only [Act.put, List.setIfInBounds_toArray, List.set_cons_zero, List.set_cons_succ]
                      have hSp := sspills HFt.out.pl.sa
                      refine wpAnyL_one (i := 7) (by kernel_rfl) rfl (fun Ka hKa => ?_)
                      go_simp
                      refine Calls.mono hSp ?_
                      rintro r w5 ⟨rfl, hw5⟩
                      rw [hw5]
                      refine hKa.out _ _ (fun _ => hSt) ?_
                      clear hKa Ka hw5 hSp
                      try simp only [Act.put, List.setIfInBounds_toArray, List.set_cons_zero, List.set_cons_succ]
                      refine wpAnyL_take (i := 9) 181 (v := .bool false) rfl rfl (by kernel_rfl) (by kernel_rfl) (by kernel_rfl) (by kernel_rfl) (by kernel_rfl) (by kernel_rfl) (fun _ _ _ h => h) hSt (by rfl) (by intro w' hSw; obtain ⟨y1, y2⟩ := hSw; go_simp <;> with_reducible rfl) ?_
                      simp only [Act.put, List.setIfInBounds_toArray, List.set_cons_zero, List.set_cons_succ]
                      refine wpAnyL_take (i := 10) 182 (v := .bool false) rfl rfl (by kernel_rfl) (by kernel_rfl) (by kernel_rfl) (by kernel_rfl) (by kernel_rfl) (by kernel_rfl) (fun _ _ _ h => h) hSt (by rfl) (by intro w' hSw; obtain ⟨y1, y2⟩ := hSw; go_simp <;> with_reducible rfl) ?_
                      simp only [Act.put, List.setIfInBounds_toArray, List.set_cons_zero, List.set_cons_succ]
                      refine wpAnyL_done (by kernel_rfl) ?_ _
                      have hNb : Calls Tryz.prog 16 #[.pointer (some ⟨qs, 0, none⟩), .agg #[.map (some (b)), .slice a7 l7 c7]] wt fun r w' => r = .returned (.bool true) ∧ Below wt.heap.size wt w' := lnumbers HFt.out.pl.sa HFt.out.pl.mp (by obtain ⟨a, c, e⟩ := HFt.out.pl.row.shape; exact ⟨a, _, c, e⟩)
                      obtain ⟨_, _, _, q0, q1, _, _⟩ := HFt.out.cells
                      clear hSt
                      go_wp2_with (go_at_call 16; refine Calls.mono hNb ?_; rintro r w8 ⟨rfl, e1⟩; have HB8 : Hid (Below wt.heap.size wt w8) := e1; clear e1 hNb)
                      go_roundw
                      case rel => exact ⟨k + 1, K2, hlt, h80, by go_num, by rfl, ⟨⟨_, _, _, (HFt.out.new HB8.out).pl⟩, HSq.out.2.1, HSq.out.2.2⟩⟩
                      case measure => simp [intOf]; omega
                  · by_cases k8 : yk = 8
                    · subst k8
                      as_aux_lemma =>
                        have hG := sclear HX.out.pl.sa HX.out.pl.low (by omega)
                        go_upto_region 36 with (go_at_call 11; refine Calls.mono hG ?_; rintro r w6 ⟨rfl, e1⟩; have HX6 : Hid (PlX w qs B bm ab y w6 Xm b v K.clr (256 * k + 256) K.f K.near) := HX.out.call e1; clear e1 hG)
                        clear d0 d1 d2 m0 m1 g0 g1 hlk
                        have hmm := @run_makeMap Tryz.prog
                        have hbA : (w6.alloc (.map #[] 0)).heap[bm]? = some (.cells #[.map (some b), v] 33 (0, 0)) := ((gone_new w6 (.map #[] 0)).block bm (lt_blk HX6.out.pl.bx)).trans HX6.out.pl.bx
                        have HbA : Hid ((w6.alloc (.map #[] 0)).heap[bm]? = some (.cells #[.map (some b), v] 33 (0, 0))) := hbA
                        clear hbA
                        go_upto_region 37 with (refine wpList_store_row rfl 33 _ _ rfl _ #[.map (some w6.heap.size), .slice none 0 0] rfl rfl 33 #[.map (some b), v] HbA.out size_model rfl (by simp [Value.oneCell']) ?_)
                        clear hmm HbA
                        obtain ⟨Xn, hF⟩ := HX6.out.anew
                        have HF : Hid (PlX w qs B bm ab y ((w6.alloc (.map #[] 0)).setRow bm #[.map (some w6.heap.size), .slice none 0 0]) Xn w6.heap.size (.slice none 0 0) K.clr (256 * k + 256) K.clr.f K.clr.near) := hF
                        clear hF
                        generalize (w6.alloc (.map #[] 0)).setRow bm #[.map (some w6.heap.size), .slice none 0 0] = wF at HF ⊢
                        generalize w6.heap.size = b' at HF ⊢
                        have HSq : Hid ((K.clr).sp = K.sp + 0 ∧ (K.clr).bud = bud ∧ (K.clr).sp ≤ 16 * (k + 1)) := ⟨rfl, HE.out.bud, by have h1 := HE.out.sp; show K.sp ≤ _; omega⟩
                        have hsb : K.sp ≤ 16 * 80 := by have := HE.out.sp; omega
                        have hgb : 0 ≤ 16 * 81 := by have := HSq.out.1; have := HSq.out.2.2; omega
                        go_upto_region 38 with (fail)
                        have hE8 : (K.sp : Int) + ((0 : Nat) : Int) = (((K.clr).sp : Nat) : Int) := by rw [HSq.out.1]; simp
                        try simp only [Int.add_zero, Int.natCast_zero, Int.ofNat_zero] at hE8
                        try rw [hE8]
                        clear hE8 hsb hgb
                        obtain ⟨K2, hK2⟩ : ∃ K2, K.clr = K2 := ⟨_, rfl⟩
                        rw [hK2] at HF HSq ⊢
                        clear hK2
                        have hsp2 : K2.sp ≤ 100000 := by have := HSq.out.2.2; omega
                        obtain ⟨T2, hT2⟩ : ∃ T2, totL K2.f K2.near = T2 := ⟨_, rfl⟩
                        have hok2 := HF.out.pl.sa.ok
                        have hby : byt (heldO K2.f K2.near) K2.near = T2 := by rw [← hT2]; exact held_tot K2.f K2.near K2.near (fun _ h => h)
                        obtain ⟨Wd, hWd⟩ : ∃ Wd, (wF).drew = Wd := ⟨_, rfl⟩
                        have bd : Below (wF).heap.size (wF) Wd := by rw [← hWd]; exact Below.drew (Below.refl _ _)
                        have HFd : Hid (PlX w qs B bm ab y Wd (Xn) (b') (.slice none 0 0) K2 (256 * k + 256) K2.f K2.near) := HF.out.new bd
                        have hUd := sused HFd.out.pl.sa
                        rw [hby] at hUd
                        have HUm : Hid (∀ V, Below Wd.heap.size Wd V → Calls Tryz.prog 14 #[.agg #[.map (some (b')), .slice none 0 0]] V fun r w' => r = .returned (.int .i64 T2) ∧ Below V.heap.size V w') := fun V hV => by
                          have h2 := HFd.out.new hV
                          have := mused h2.pl.mp h2.pl.row.toS (by have := hok2.few; omega) (fun x hx => by have := hok2.sup x (hok2.sub x hx); exact i6_few this.1 this.2) (st_lenO hok2)
                          rw [hT2] at this
                          exact this
                        have htb : T2 ≤ 16 * 140737488351232 := by
                          rw [← hT2]
                          refine Nat.le_trans (totL_le K2.near (fun x _ => st_lenO hok2 x)) (Nat.mul_le_mul_right _ hok2.few)
                        obtain ⟨_, _, _, q0, q1, _, _⟩ := HFd.out.cells
                        have hS : Wd.cell? ⟨bm, 0, none⟩ = some (.map (some (b'))) ∧ Wd.cell? ⟨bm, 1, none⟩ = some (.slice none 0 0) := ⟨q0, q1⟩
                        clear q0 q1 bd hby hT2 hok2
                        refine wp_calmD ?_
                        refine wp_region_L [] (fun W : World => W.cell? ⟨bm, 0, none⟩ = some (.map (some (b'))) ∧ W.cell? ⟨bm, 1, none⟩ = some (.slice none 0 0)) (by kernel_rfl) ?_
                        rw [hWd]
                        clear hWd
                        refine wpAnyL_take (i := 0) 172 (v := .pointer (some ⟨qs, 0, none⟩)) rfl rfl (by kernel_rfl) (by kernel_rfl) (by kernel_rfl) (by kernel_rfl) (by kernel_rfl) (by kernel_rfl) (fun _ _ _ h => h) hS (by rfl) (by intro w' hSw; obtain ⟨y1, y2⟩ := hSw; go_simp <;> with_reducible rfl) ?_
                        simp only [Act.put, List.setIfInBounds_toArray, List.set_cons_zero, List.set_cons_succ]
                        refine wpAnyL_take (i := 2) 174 (v := .agg #[.map (some (b')), .slice none 0 0]) rfl rfl (by kernel_rfl) (by kernel_rfl) (by kernel_rfl) (by kernel_rfl) (by kernel_rfl) (by kernel_rfl) (fun _ _ _ h => h) hS (by rfl) (by intro w' hSw; obtain ⟨y1, y2⟩ := hSw; go_simp <;> with_reducible rfl) ?_
                        simp only [Act.put, List.setIfInBounds_toArray, List.set_cons_zero, List.set_cons_succ]
                        refine wpAnyL_one (i := 1) (by kernel_rfl) rfl (fun Ka hKa => ?_)
                        go_simp
                        refine Calls.mono hUd ?_
                        rintro r w5 ⟨rfl, hw5⟩
                        rw [hw5]
                        refine hKa.out _ _ (fun _ => hS) ?_
                        clear hKa Ka hw5 hUd
                        try simp only [Act.put, List.setIfInBounds_toArray, List.set_cons_zero, List.set_cons_succ]
                        have hUm := HUm.out Wd (Below.refl _ _)
                        refine wpAnyL_one (i := 3) (by kernel_rfl) rfl (fun Ka hKa => ?_)
                        go_simp
                        refine Calls.mono hUm ?_
                        rintro r wt ⟨rfl, et⟩
                        have HFt : Hid (PlX w qs B bm ab y wt (Xn) (b') (.slice none 0 0) K2 (256 * k + 256) K2.f K2.near) := HFd.out.new et
                        obtain ⟨_, _, _, q0, q1, _, _⟩ := HFt.out.cells
                        have hSt : wt.cell? ⟨bm, 0, none⟩ = some (.map (some (b'))) ∧ wt.cell? ⟨bm, 1, none⟩ = some (.slice none 0 0) := ⟨q0, q1⟩
                        refine hKa.out _ _ (fun _ => hSt) ?_
                        clear hKa Ka et hUm hS q0 q1
                        try simp only [Act.put, List.setIfInBounds_toArray, List.set_cons_zero, List.set_cons_succ]
                        refine wpAnyL_take (i := 4) 176 (v := .bool false) rfl rfl (by kernel_rfl) (by kernel_rfl) (by kernel_rfl) (by kernel_rfl) (by kernel_rfl) (by kernel_rfl) (fun _ _ _ h => h) hSt (by rfl) (by intro w' hSw; obtain ⟨y1, y2⟩ := hSw; go_simp <;> with_reducible rfl) ?_
                        simp only [Act.put, List.setIfInBounds_toArray, List.set_cons_zero, List.set_cons_succ]
                        refine wpAnyL_take (i := 5) 177 (v := .bool false) rfl rfl (by kernel_rfl) (by kernel_rfl) (by kernel_rfl) (by kernel_rfl) (by kernel_rfl) (by kernel_rfl) (fun _ _ _ h => h) hSt (by rfl) (by intro w' hSw; obtain ⟨y1, y2⟩ := hSw; go_simp <;> with_reducible rfl) ?_
                        simp only [Act.put, List.setIfInBounds_toArray, List.set_cons_zero, List.set_cons_succ]
                        refine wpAnyL_take (i := 6) 178 (v := .pointer (some ⟨qs, 0, none⟩)) rfl rfl (by kernel_rfl) (by kernel_rfl) (by kernel_rfl) (by kernel_rfl) (by kernel_rfl) (by kernel_rfl) (fun _ _ _ h => h) hSt (by rfl) (by intro w' hSw; obtain ⟨y1, y2⟩ := hSw; go_simp <;> with_reducible rfl) ?_
                        simp only [Act.put, List.setIfInBounds_toArray, List.set_cons_zero, List.set_cons_succ]
                        refine wpAnyL_take (i := 8) 180 (v := .int .i64 K2.sp) rfl rfl (by kernel_rfl) (by kernel_rfl) (by kernel_rfl) (by kernel_rfl) (by kernel_rfl) (by kernel_rfl) (fun _ _ _ h => h) hSt (by rfl) (by intro w' hSw; obtain ⟨y1, y2⟩ := hSw; go_simp <;> with_reducible rfl) ?_
                        simp only [Act.put, List.setIfInBounds_toArray, List.set_cons_zero, List.set_cons_succ]
                        have hSp := sspills HFt.out.pl.sa
                        refine wpAnyL_one (i := 7) (by kernel_rfl) rfl (fun Ka hKa => ?_)
                        go_simp
                        refine Calls.mono hSp ?_
                        rintro r w5 ⟨rfl, hw5⟩
                        rw [hw5]
                        refine hKa.out _ _ (fun _ => hSt) ?_
                        clear hKa Ka hw5 hSp
                        try simp only [Act.put, List.setIfInBounds_toArray, List.set_cons_zero, List.set_cons_succ]
                        refine wpAnyL_take (i := 9) 181 (v := .bool false) rfl rfl (by kernel_rfl) (by kernel_rfl) (by kernel_rfl) (by kernel_rfl) (by kernel_rfl) (by kernel_rfl) (fun _ _ _ h => h) hSt (by rfl) (by intro w' hSw; obtain ⟨y1, y2⟩ := hSw; go_simp <;> with_reducible rfl) ?_
                        simp only [Act.put, List.setIfInBounds_toArray, List.set_cons_zero, List.set_cons_succ]
                        refine wpAnyL_take (i := 10) 182 (v := .bool false) rfl rfl (by kernel_rfl) (by kernel_rfl) (by kernel_rfl) (by kernel_rfl) (by kernel_rfl) (by kernel_rfl) (fun _ _ _ h => h) hSt (by rfl) (by intro w' hSw; obtain ⟨y1, y2⟩ := hSw; go_simp <;> with_reducible rfl) ?_
                        simp only [Act.put, List.setIfInBounds_toArray, List.set_cons_zero, List.set_cons_succ]
                        refine wpAnyL_done (by kernel_rfl) ?_ _
                        have hNb : Calls Tryz.prog 16 #[.pointer (some ⟨qs, 0, none⟩), .agg #[.map (some (b')), .slice none 0 0]] wt fun r w' => r = .returned (.bool true) ∧ Below wt.heap.size wt w' := lnumbers HFt.out.pl.sa HFt.out.pl.mp (by obtain ⟨a, c, e⟩ := HFt.out.pl.row.shape; exact ⟨a, _, c, e⟩)
                        obtain ⟨_, _, _, q0, q1, _, _⟩ := HFt.out.cells
                        clear hSt
                        go_wp2_with (go_at_call 16; refine Calls.mono hNb ?_; rintro r w8 ⟨rfl, e1⟩; have HB8 : Hid (Below wt.heap.size wt w8) := e1; clear e1 hNb)
                        go_roundw
                        case rel => exact ⟨k + 1, K2, hlt, h80, by go_num, by rfl, ⟨⟨_, _, _, (HFt.out.new HB8.out).pl⟩, HSq.out.2.1, HSq.out.2.2⟩⟩
                        case measure => simp [intOf]; omega
                    · have hn8 := k8
                      as_aux_lemma =>
                        have hG := sput (n := yn) (t := ys) HX.out.pl.sa HX.out.pl.low (by omega) hsl (by have := HE.out.sp; omega)
                        rw [if_neg ho] at hG
                        go_upto_region 16 with (go_at_call 12; refine Calls.mono hG ?_; rintro r w6 ⟨rfl, e1⟩; have HX6 : Hid (PlX w qs B bm ab y w6 Xm b v (K.putK yn ys) (256 * k + 16) K.f K.near) := HX.out.call e1; clear e1 hG)
                        clear d0 d1 d2 m0 m1 g0 g1 hlk
                        have HF : Hid (PlX w qs B bm ab y w6 Xm b v K (256 * k + 256) K.f K.near) := by
                          have h := HX6.out.mono (d := 256 * k + 256) (by omega)
                          have e1 : K.putK yn ys = K := by unfold St.putK; rw [if_neg ho]
                          rw [e1] at h
                          exact h
                        have HSq : Hid ((K).sp = K.sp + 0 ∧ (K).bud = bud ∧ (K).sp ≤ 16 * (k + 1)) := ⟨rfl, HE.out.bud, by have h1 := HE.out.sp; omega⟩
                        have hsb : K.sp ≤ 16 * 80 := by have := HE.out.sp; omega
                        have hgb : 0 ≤ 16 * 81 := by have := HSq.out.1; have := HSq.out.2.2; omega
                        go_upto_region 38 with (fail)
                        have hE8 : (K.sp : Int) + ((0 : Nat) : Int) = (((K).sp : Nat) : Int) := by rw [HSq.out.1]; simp
                        try simp only [Int.add_zero, Int.natCast_zero, Int.ofNat_zero] at hE8
                        try rw [hE8]
                        clear hE8 hsb hgb
                        obtain ⟨K2, hK2⟩ : ∃ K2, K = K2 := ⟨_, rfl⟩
                        rw [hK2] at HF HSq ⊢
                        clear hK2
                        have hsp2 : K2.sp ≤ 100000 := by have := HSq.out.2.2; omega
                        obtain ⟨T2, hT2⟩ : ∃ T2, totL K2.f K2.near = T2 := ⟨_, rfl⟩
                        have hok2 := HF.out.pl.sa.ok
                        have hby : byt (heldO K2.f K2.near) K2.near = T2 := by rw [← hT2]; exact held_tot K2.f K2.near K2.near (fun _ h => h)
                        obtain ⟨Wd, hWd⟩ : ∃ Wd, (w6).drew = Wd := ⟨_, rfl⟩
                        have bd : Below (w6).heap.size (w6) Wd := by rw [← hWd]; exact Below.drew (Below.refl _ _)
                        have HFd : Hid (PlX w qs B bm ab y Wd (Xm) (b) (v) K2 (256 * k + 256) K2.f K2.near) := HF.out.new bd
                        have hUd := sused HFd.out.pl.sa
                        rw [hby] at hUd
                        have HUm : Hid (∀ V, Below Wd.heap.size Wd V → Calls Tryz.prog 14 #[.agg #[.map (some (b)), v]] V fun r w' => r = .returned (.int .i64 T2) ∧ Below V.heap.size V w') := fun V hV => by
                          have h2 := HFd.out.new hV
                          have := mused h2.pl.mp h2.pl.row.toS (by have := hok2.few; omega) (fun x hx => by have := hok2.sup x (hok2.sub x hx); exact i6_few this.1 this.2) (st_lenO hok2)
                          rw [hT2] at this
                          exact this
                        have htb : T2 ≤ 16 * 140737488351232 := by
                          rw [← hT2]
                          refine Nat.le_trans (totL_le K2.near (fun x _ => st_lenO hok2 x)) (Nat.mul_le_mul_right _ hok2.few)
                        obtain ⟨_, _, _, q0, q1, _, _⟩ := HFd.out.cells
                        have hS : Wd.cell? ⟨bm, 0, none⟩ = some (.map (some (b))) ∧ Wd.cell? ⟨bm, 1, none⟩ = some (v) := ⟨q0, q1⟩
                        clear q0 q1 bd hby hT2 hok2
                        refine wp_calmD ?_
                        refine wp_region_L [] (fun W : World => W.cell? ⟨bm, 0, none⟩ = some (.map (some (b))) ∧ W.cell? ⟨bm, 1, none⟩ = some (v)) (by kernel_rfl) ?_
                        rw [hWd]
                        clear hWd
                        refine wpAnyL_take (i := 0) 172 (v := .pointer (some ⟨qs, 0, none⟩)) rfl rfl (by kernel_rfl) (by kernel_rfl) (by kernel_rfl) (by kernel_rfl) (by kernel_rfl) (by kernel_rfl) (fun _ _ _ h => h) hS (by rfl) (by intro w' hSw; obtain ⟨y1, y2⟩ := hSw; go_simp <;> with_reducible rfl) ?_
                        simp only [Act.put, List.setIfInBounds_toArray, List.set_cons_zero, List.set_cons_succ]
                        refine wpAnyL_take (i := 2) 174 (v := .agg #[.map (some (b)), v]) rfl rfl (by kernel_rfl) (by kernel_rfl) (by kernel_rfl) (by kernel_rfl) (by kernel_rfl) (by kernel_rfl) (fun _ _ _ h => h) hS (by rfl) (by intro w' hSw; obtain ⟨y1, y2⟩ := hSw; go_simp <;> with_reducible rfl) ?_
                        simp only [Act.put, List.setIfInBounds_toArray, List.set_cons_zero, List.set_cons_succ]
                        refine wpAnyL_one (i := 1) (by kernel_rfl) rfl (fun Ka hKa => ?_)
                        go_simp
                        refine Calls.mono hUd ?_
                        rintro r w5 ⟨rfl, hw5⟩
                        rw [hw5]
                        refine hKa.out _ _ (fun _ => hS) ?_
                        clear hKa Ka hw5 hUd
                        try simp only [Act.put, List.setIfInBounds_toArray, List.set_cons_zero, List.set_cons_succ]
                        have hUm := HUm.out Wd (Below.refl _ _)
                        refine wpAnyL_one (i := 3) (by kernel_rfl) rfl (fun Ka hKa => ?_)
                        go_simp
                        refine Calls.mono hUm ?_
                        rintro r wt ⟨rfl, et⟩
                        have HFt : Hid (PlX w qs B bm ab y wt (Xm) (b) (v) K2 (256 * k + 256) K2.f K2.near) := HFd.out.new et
                        obtain ⟨_, _, _, q0, q1, _, _⟩ := HFt.out.cells
                        have hSt : wt.cell? ⟨bm, 0, none⟩ = some (.map (some (b))) ∧ wt.cell? ⟨bm, 1, none⟩ = some (v) := ⟨q0, q1⟩
                        refine hKa.out _ _ (fun _ => hSt) ?_
                        clear hKa Ka et hUm hS q0 q1
                        try simp only [Act.put, List.setIfInBounds_toArray, List.set_cons_zero, List.set_cons_succ]
                        refine wpAnyL_take (i := 4) 176 (v := .bool false) rfl rfl (by kernel_rfl) (by kernel_rfl) (by kernel_rfl) (by kernel_rfl) (by kernel_rfl) (by kernel_rfl) (fun _ _ _ h => h) hSt (by rfl) (by intro w' hSw; obtain ⟨y1, y2⟩ := hSw; go_simp <;> with_reducible rfl) ?_
                        simp only [Act.put, List.setIfInBounds_toArray, List.set_cons_zero, List.set_cons_succ]
                        refine wpAnyL_take (i := 5) 177 (v := .bool false) rfl rfl (by kernel_rfl) (by kernel_rfl) (by kernel_rfl) (by kernel_rfl) (by kernel_rfl) (by kernel_rfl) (fun _ _ _ h => h) hSt (by rfl) (by intro w' hSw; obtain ⟨y1, y2⟩ := hSw; go_simp <;> with_reducible rfl) ?_
                        simp only [Act.put, List.setIfInBounds_toArray, List.set_cons_zero, List.set_cons_succ]
                        refine wpAnyL_take (i := 6) 178 (v := .pointer (some ⟨qs, 0, none⟩)) rfl rfl (by kernel_rfl) (by kernel_rfl) (by kernel_rfl) (by kernel_rfl) (by kernel_rfl) (by kernel_rfl) (fun _ _ _ h => h) hSt (by rfl) (by intro w' hSw; obtain ⟨y1, y2⟩ := hSw; go_simp <;> with_reducible rfl) ?_
                        simp only [Act.put, List.setIfInBounds_toArray, List.set_cons_zero, List.set_cons_succ]
                        refine wpAnyL_take (i := 8) 180 (v := .int .i64 K2.sp) rfl rfl (by kernel_rfl) (by kernel_rfl) (by kernel_rfl) (by kernel_rfl) (by kernel_rfl) (by kernel_rfl) (fun _ _ _ h => h) hSt (by rfl) (by intro w' hSw; obtain ⟨y1, y2⟩ := hSw; go_simp <;> with_reducible rfl) ?_
                        simp only [Act.put, List.setIfInBounds_toArray, List.set_cons_zero, List.set_cons_succ]
                        have hSp := sspills HFt.out.pl.sa
                        refine wpAnyL_one (i := 7) (by kernel_rfl) rfl (fun Ka hKa => ?_)
                        go_simp
                        refine Calls.mono hSp ?_
                        rintro r w5 ⟨rfl, hw5⟩
                        rw [hw5]
                        refine hKa.out _ _ (fun _ => hSt) ?_
                        clear hKa Ka hw5 hSp
                        try simp only [Act.put, List.setIfInBounds_toArray, List.set_cons_zero, List.set_cons_succ]
                        refine wpAnyL_take (i := 9) 181 (v := .bool false) rfl rfl (by kernel_rfl) (by kernel_rfl) (by kernel_rfl) (by kernel_rfl) (by kernel_rfl) (by kernel_rfl) (fun _ _ _ h => h) hSt (by rfl) (by intro w' hSw; obtain ⟨y1, y2⟩ := hSw; go_simp <;> with_reducible rfl) ?_
                        simp only [Act.put, List.setIfInBounds_toArray, List.set_cons_zero, List.set_cons_succ]
                        refine wpAnyL_take (i := 10) 182 (v := .bool false) rfl rfl (by kernel_rfl) (by kernel_rfl) (by kernel_rfl) (by kernel_rfl) (by kernel_rfl) (by kernel_rfl) (fun _ _ _ h => h) hSt (by rfl) (by intro w' hSw; obtain ⟨y1, y2⟩ := hSw; go_simp <;> with_reducible rfl) ?_
                        simp only [Act.put, List.setIfInBounds_toArray, List.set_cons_zero, List.set_cons_succ]
                        refine wpAnyL_done (by kernel_rfl) ?_ _
                        have hNb : Calls Tryz.prog 16 #[.pointer (some ⟨qs, 0, none⟩), .agg #[.map (some (b)), v]] wt fun r w' => r = .returned (.bool true) ∧ Below wt.heap.size wt w' := lnumbers HFt.out.pl.sa HFt.out.pl.mp (by obtain ⟨a, c, e⟩ := HFt.out.pl.row.shape; exact ⟨a, _, c, e⟩)
                        obtain ⟨_, _, _, q0, q1, _, _⟩ := HFt.out.cells
                        clear hSt
                        go_wp2_with (go_at_call 16; refine Calls.mono hNb ?_; rintro r w8 ⟨rfl, e1⟩; have HB8 : Hid (Below wt.heap.size wt w8) := e1; clear e1 hNb)
                        go_roundw
                        case rel => exact ⟨k + 1, K2, hlt, h80, by go_num, by rfl, ⟨⟨_, _, _, (HFt.out.new HB8.out).pl⟩, HSq.out.2.1, HSq.out.2.2⟩⟩
                        case measure => simp [intOf]; omega
        · have ho : ¬ okN yn = true := fun h => r0 (okN_iff.1 h).1
          have hf : K.f yn = none := by
            cases e : K.f yn with
            | none => rfl
            | some s => exact absurd (HX.out.pl.sa.ok.sup yn (by rw [e]; rfl)).1 r0
          rw [hf] at hlk
          simp only [Option.getD_none, Option.isSome_none] at hlk
          go_upto_region 21 with (fail)
          by_cases k4 : yk = 4
          · subst k4
            as_aux_lemma =>
              have hG := sget (n := yn) HX.out.pl.sa HX.out.pl.low (by omega) hin (by have := HE.out.sp; omega)
              rw [hf] at hG
              change Calls _ _ _ _ (fun r w' => r = .returned (.tuple #[.string (str []), .int .i64 2]) ∧ _) at hG
              have hst : (str []).toList = [] := str_toList _
              go_upto_region 25 with (go_at_call 7; refine Calls.mono hG ?_; rintro r w6 ⟨rfl, e1⟩; have HX6 : Hid (PlX w qs B bm ab y w6 Xm b v (K.getK yn) (256 * k + 16) K.f K.near) := HX.out.call e1; clear e1 hG)
              clear d0 d1 d2 m0 m1 g0 g1 hlk
              have HF : Hid (PlX w qs B bm ab y w6 Xm b v K (256 * k + 256) K.f K.near) := by
                have h := HX6.out.mono (d := 256 * k + 256) (by omega)
                have e1 : K.getK yn = K := by unfold St.getK; rw [hf]
                rw [e1] at h
                exact h
              have HSq : Hid ((K).sp = K.sp + 0 ∧ (K).bud = bud ∧ (K).sp ≤ 16 * (k + 1)) := ⟨rfl, HE.out.bud, by have h1 := HE.out.sp; omega⟩
              have hsb : K.sp ≤ 16 * 80 := by have := HE.out.sp; omega
              have hgb : 0 ≤ 16 * 81 := by have := HSq.out.1; have := HSq.out.2.2; omega
              go_upto_region 38 with (fail)
              have hE8 : (K.sp : Int) + ((0 : Nat) : Int) = (((K).sp : Nat) : Int) := by rw [HSq.out.1]; simp
              try simp only [Int.add_zero, Int.natCast_zero, Int.ofNat_zero] at hE8
              try rw [hE8]
              clear hE8 hsb hgb
              obtain ⟨K2, hK2⟩ : ∃ K2, K = K2 := ⟨_, rfl⟩
              rw [hK2] at HF HSq ⊢
              clear hK2
              have hsp2 : K2.sp ≤ 100000 := by have := HSq.out.2.2; omega
              obtain ⟨T2, hT2⟩ : ∃ T2, totL K2.f K2.near = T2 := ⟨_, rfl⟩
              have hok2 := HF.out.pl.sa.ok
              have hby : byt (heldO K2.f K2.near) K2.near = T2 := by rw [← hT2]; exact held_tot K2.f K2.near K2.near (fun _ h => h)
              obtain ⟨Wd, hWd⟩ : ∃ Wd, (w6).drew = Wd := ⟨_, rfl⟩
              have bd : Below (w6).heap.size (w6) Wd := by rw [← hWd]; exact Below.drew (Below.refl _ _)
              have HFd : Hid (PlX w qs B bm ab y Wd (Xm) (b) (v) K2 (256 * k + 256) K2.f K2.near) := HF.out.new bd
              have hUd := sused HFd.out.pl.sa
              rw [hby] at hUd
              have HUm : Hid (∀ V, Below Wd.heap.size Wd V → Calls Tryz.prog 14 #[.agg #[.map (some (b)), v]] V fun r w' => r = .returned (.int .i64 T2) ∧ Below V.heap.size V w') := fun V hV => by
                have h2 := HFd.out.new hV
                have := mused h2.pl.mp h2.pl.row.toS (by have := hok2.few; omega) (fun x hx => by have := hok2.sup x (hok2.sub x hx); exact i6_few this.1 this.2) (st_lenO hok2)
                rw [hT2] at this
                exact this
              have htb : T2 ≤ 16 * 140737488351232 := by
                rw [← hT2]
                refine Nat.le_trans (totL_le K2.near (fun x _ => st_lenO hok2 x)) (Nat.mul_le_mul_right _ hok2.few)
              obtain ⟨_, _, _, q0, q1, _, _⟩ := HFd.out.cells
              have hS : Wd.cell? ⟨bm, 0, none⟩ = some (.map (some (b))) ∧ Wd.cell? ⟨bm, 1, none⟩ = some (v) := ⟨q0, q1⟩
              clear q0 q1 bd hby hT2 hok2
              refine wp_calmD ?_
              refine wp_region_L [] (fun W : World => W.cell? ⟨bm, 0, none⟩ = some (.map (some (b))) ∧ W.cell? ⟨bm, 1, none⟩ = some (v)) (by kernel_rfl) ?_
              rw [hWd]
              clear hWd
              refine wpAnyL_take (i := 0) 172 (v := .pointer (some ⟨qs, 0, none⟩)) rfl rfl (by kernel_rfl) (by kernel_rfl) (by kernel_rfl) (by kernel_rfl) (by kernel_rfl) (by kernel_rfl) (fun _ _ _ h => h) hS (by rfl) (by intro w' hSw; obtain ⟨y1, y2⟩ := hSw; go_simp <;> with_reducible rfl) ?_
              simp only [Act.put, List.setIfInBounds_toArray, List.set_cons_zero, List.set_cons_succ]
              refine wpAnyL_take (i := 2) 174 (v := .agg #[.map (some (b)), v]) rfl rfl (by kernel_rfl) (by kernel_rfl) (by kernel_rfl) (by kernel_rfl) (by kernel_rfl) (by kernel_rfl) (fun _ _ _ h => h) hS (by rfl) (by intro w' hSw; obtain ⟨y1, y2⟩ := hSw; go_simp <;> with_reducible rfl) ?_
              simp only [Act.put, List.setIfInBounds_toArray, List.set_cons_zero, List.set_cons_succ]
              refine wpAnyL_one (i := 1) (by kernel_rfl) rfl (fun Ka hKa => ?_)
              go_simp
              refine Calls.mono hUd ?_
              rintro r w5 ⟨rfl, hw5⟩
              rw [hw5]
              refine hKa.out _ _ (fun _ => hS) ?_
              clear hKa Ka hw5 hUd
              try simp only [Act.put, List.setIfInBounds_toArray, List.set_cons_zero, List.set_cons_succ]
              have hUm := HUm.out Wd (Below.refl _ _)
              refine wpAnyL_one (i := 3) (by kernel_rfl) rfl (fun Ka hKa => ?_)
              go_simp
              refine Calls.mono hUm ?_
              rintro r wt ⟨rfl, et⟩
              have HFt : Hid (PlX w qs B bm ab y wt (Xm) (b) (v) K2 (256 * k + 256) K2.f K2.near) := HFd.out.new et
              obtain ⟨_, _, _, q0, q1, _, _⟩ := HFt.out.cells
              have hSt : wt.cell? ⟨bm, 0, none⟩ = some (.map (some (b))) ∧ wt.cell? ⟨bm, 1, none⟩ = some (v) := ⟨q0, q1⟩
              refine hKa.out _ _ (fun _ => hSt) ?_
              clear hKa Ka et hUm hS q0 q1
              try simp only [Act.put, List.setIfInBounds_toArray, List.set_cons_zero, List.set_cons_succ]
              refine wpAnyL_take (i := 4) 176 (v := .bool false) rfl rfl (by kernel_rfl) (by kernel_rfl) (by kernel_rfl) (by kernel_rfl) (by kernel_rfl) (by kernel_rfl) (fun _ _ _ h => h) hSt (by rfl) (by intro w' hSw; obtain ⟨y1, y2⟩ := hSw; go_simp <;> with_reducible rfl) ?_
              simp only [Act.put, List.setIfInBounds_toArray, List.set_cons_zero, List.set_cons_succ]
              refine wpAnyL_take (i := 5) 177 (v := .bool false) rfl rfl (by kernel_rfl) (by kernel_rfl) (by kernel_rfl) (by kernel_rfl) (by kernel_rfl) (by kernel_rfl) (fun _ _ _ h => h) hSt (by rfl) (by intro w' hSw; obtain ⟨y1, y2⟩ := hSw; go_simp <;> with_reducible rfl) ?_
              simp only [Act.put, List.setIfInBounds_toArray, List.set_cons_zero, List.set_cons_succ]
              refine wpAnyL_take (i := 6) 178 (v := .pointer (some ⟨qs, 0, none⟩)) rfl rfl (by kernel_rfl) (by kernel_rfl) (by kernel_rfl) (by kernel_rfl) (by kernel_rfl) (by kernel_rfl) (fun _ _ _ h => h) hSt (by rfl) (by intro w' hSw; obtain ⟨y1, y2⟩ := hSw; go_simp <;> with_reducible rfl) ?_
              simp only [Act.put, List.setIfInBounds_toArray, List.set_cons_zero, List.set_cons_succ]
              refine wpAnyL_take (i := 8) 180 (v := .int .i64 K2.sp) rfl rfl (by kernel_rfl) (by kernel_rfl) (by kernel_rfl) (by kernel_rfl) (by kernel_rfl) (by kernel_rfl) (fun _ _ _ h => h) hSt (by rfl) (by intro w' hSw; obtain ⟨y1, y2⟩ := hSw; go_simp <;> with_reducible rfl) ?_
              simp only [Act.put, List.setIfInBounds_toArray, List.set_cons_zero, List.set_cons_succ]
              have hSp := sspills HFt.out.pl.sa
              refine wpAnyL_one (i := 7) (by kernel_rfl) rfl (fun Ka hKa => ?_)
              go_simp
              refine Calls.mono hSp ?_
              rintro r w5 ⟨rfl, hw5⟩
              rw [hw5]
              refine hKa.out _ _ (fun _ => hSt) ?_
              clear hKa Ka hw5 hSp
              try simp only [Act.put, List.setIfInBounds_toArray, List.set_cons_zero, List.set_cons_succ]
              refine wpAnyL_take (i := 9) 181 (v := .bool false) rfl rfl (by kernel_rfl) (by kernel_rfl) (by kernel_rfl) (by kernel_rfl) (by kernel_rfl) (by kernel_rfl) (fun _ _ _ h => h) hSt (by rfl) (by intro w' hSw; obtain ⟨y1, y2⟩ := hSw; go_simp <;> with_reducible rfl) ?_
              simp only [Act.put, List.setIfInBounds_toArray, List.set_cons_zero, List.set_cons_succ]
              refine wpAnyL_take (i := 10) 182 (v := .bool false) rfl rfl (by kernel_rfl) (by kernel_rfl) (by kernel_rfl) (by kernel_rfl) (by kernel_rfl) (by kernel_rfl) (fun _ _ _ h => h) hSt (by rfl) (by intro w' hSw; obtain ⟨y1, y2⟩ := hSw; go_simp <;> with_reducible rfl) ?_
              simp only [Act.put, List.setIfInBounds_toArray, List.set_cons_zero, List.set_cons_succ]
              refine wpAnyL_done (by kernel_rfl) ?_ _
              have hNb : Calls Tryz.prog 16 #[.pointer (some ⟨qs, 0, none⟩), .agg #[.map (some (b)), v]] wt fun r w' => r = .returned (.bool true) ∧ Below wt.heap.size wt w' := lnumbers HFt.out.pl.sa HFt.out.pl.mp (by obtain ⟨a, c, e⟩ := HFt.out.pl.row.shape; exact ⟨a, _, c, e⟩)
              obtain ⟨_, _, _, q0, q1, _, _⟩ := HFt.out.cells
              clear hSt
              go_wp2_with (go_at_call 16; refine Calls.mono hNb ?_; rintro r w8 ⟨rfl, e1⟩; have HB8 : Hid (Below wt.heap.size wt w8) := e1; clear e1 hNb)
              go_roundw
              case rel => exact ⟨k + 1, K2, hlt, h80, by go_num, by rfl, ⟨⟨_, _, _, (HFt.out.new HB8.out).pl⟩, HSq.out.2.1, HSq.out.2.2⟩⟩
              case measure => simp [intOf]; omega
          · have hn4 := k4
            by_cases k5 : yk = 5
            · subst k5
              as_aux_lemma =>
                have hG := sget (n := yn) HX.out.pl.sa HX.out.pl.low (by omega) hin (by have := HE.out.sp; omega)
                rw [hf] at hG
                change Calls _ _ _ _ (fun r w' => r = .returned (.tuple #[.string (str []), .int .i64 2]) ∧ _) at hG
                have hst : (str []).toList = [] := str_toList _
                go_upto_region 25 with (go_at_call 7; refine Calls.mono hG ?_; rintro r w6 ⟨rfl, e1⟩; have HX6 : Hid (PlX w qs B bm ab y w6 Xm b v (K.getK yn) (256 * k + 16) K.f K.near) := HX.out.call e1; clear e1 hG)
                clear d0 d1 d2 m0 m1 g0 g1 hlk
                have HF : Hid (PlX w qs B bm ab y w6 Xm b v K (256 * k + 256) K.f K.near) := by
                  have h := HX6.out.mono (d := 256 * k + 256) (by omega)
                  have e1 : K.getK yn = K := by unfold St.getK; rw [hf]
                  rw [e1] at h
                  exact h
                have HSq : Hid ((K).sp = K.sp + 0 ∧ (K).bud = bud ∧ (K).sp ≤ 16 * (k + 1)) := ⟨rfl, HE.out.bud, by have h1 := HE.out.sp; omega⟩
                have hsb : K.sp ≤ 16 * 80 := by have := HE.out.sp; omega
                have hgb : 0 ≤ 16 * 81 := by have := HSq.out.1; have := HSq.out.2.2; omega
                go_upto_region 38 with (fail)
                have hE8 : (K.sp : Int) + ((0 : Nat) : Int) = (((K).sp : Nat) : Int) := by rw [HSq.out.1]; simp
                try simp only [Int.add_zero, Int.natCast_zero, Int.ofNat_zero] at hE8
                try rw [hE8]
                clear hE8 hsb hgb
                obtain ⟨K2, hK2⟩ : ∃ K2, K = K2 := ⟨_, rfl⟩
                rw [hK2] at HF HSq ⊢
                clear hK2
                have hsp2 : K2.sp ≤ 100000 := by have := HSq.out.2.2; omega
                obtain ⟨T2, hT2⟩ : ∃ T2, totL K2.f K2.near = T2 := ⟨_, rfl⟩
                have hok2 := HF.out.pl.sa.ok
                have hby : byt (heldO K2.f K2.near) K2.near = T2 := by rw [← hT2]; exact held_tot K2.f K2.near K2.near (fun _ h => h)
                obtain ⟨Wd, hWd⟩ : ∃ Wd, (w6).drew = Wd := ⟨_, rfl⟩
                have bd : Below (w6).heap.size (w6) Wd := by rw [← hWd]; exact Below.drew (Below.refl _ _)
                have HFd : Hid (PlX w qs B bm ab y Wd (Xm) (b) (v) K2 (256 * k + 256) K2.f K2.near) := HF.out.new bd
                have hUd := sused HFd.out.pl.sa
                rw [hby] at hUd
                have HUm : Hid (∀ V, Below Wd.heap.size Wd V → Calls Tryz.prog 14 #[.agg #[.map (some (b)), v]] V fun r w' => r = .returned (.int .i64 T2) ∧ Below V.heap.size V w') := fun V hV => by
                  have h2 := HFd.out.new hV
                  have := mused h2.pl.mp h2.pl.row.toS (by have := hok2.few; omega) (fun x hx => by have := hok2.sup x (hok2.sub x hx); exact i6_few this.1 this.2) (st_lenO hok2)
                  rw [hT2] at this
                  exact this
                have htb : T2 ≤ 16 * 140737488351232 := by
                  rw [← hT2]
                  refine Nat.le_trans (totL_le K2.near (fun x _ => st_lenO hok2 x)) (Nat.mul_le_mul_right _ hok2.few)
                obtain ⟨_, _, _, q0, q1, _, _⟩ := HFd.out.cells
                have hS : Wd.cell? ⟨bm, 0, none⟩ = some (.map (some (b))) ∧ Wd.cell? ⟨bm, 1, none⟩ = some (v) := ⟨q0, q1⟩
                clear q0 q1 bd hby hT2 hok2
                refine wp_calmD ?_
                refine wp_region_L [] (fun W : World => W.cell? ⟨bm, 0, none⟩ = some (.map (some (b))) ∧ W.cell? ⟨bm, 1, none⟩ = some (v)) (by kernel_rfl) ?_
                rw [hWd]
                clear hWd
                refine wpAnyL_take (i := 0) 172 (v := .pointer (some ⟨qs, 0, none⟩)) rfl rfl (by kernel_rfl) (by kernel_rfl) (by kernel_rfl) (by kernel_rfl) (by kernel_rfl) (by kernel_rfl) (fun _ _ _ h => h) hS (by rfl) (by intro w' hSw; obtain ⟨y1, y2⟩ := hSw; go_simp <;> with_reducible rfl) ?_
                simp only [Act.put, List.setIfInBounds_toArray, List.set_cons_zero, List.set_cons_succ]
                refine wpAnyL_take (i := 2) 174 (v := .agg #[.map (some (b)), v]) rfl rfl (by kernel_rfl) (by kernel_rfl) (by kernel_rfl) (by kernel_rfl) (by kernel_rfl) (by kernel_rfl) (fun _ _ _ h => h) hS (by rfl) (by intro w' hSw; obtain ⟨y1, y2⟩ := hSw; go_simp <;> with_reducible rfl) ?_
                simp only [Act.put, List.setIfInBounds_toArray, List.set_cons_zero, List.set_cons_succ]
                refine wpAnyL_one (i := 1) (by kernel_rfl) rfl (fun Ka hKa => ?_)
                go_simp
                refine Calls.mono hUd ?_
                rintro r w5 ⟨rfl, hw5⟩
                rw [hw5]
                refine hKa.out _ _ (fun _ => hS) ?_
                clear hKa Ka hw5 hUd
                try simp only [Act.put, List.setIfInBounds_toArray, List.set_cons_zero, List.set_cons_succ]
                have hUm := HUm.out Wd (Below.refl _ _)
                refine wpAnyL_one (i := 3) (by kernel_rfl) rfl (fun Ka hKa => ?_)
                go_simp
                refine Calls.mono hUm ?_
                rintro r wt ⟨rfl, et⟩
                have HFt : Hid (PlX w qs B bm ab y wt (Xm) (b) (v) K2 (256 * k + 256) K2.f K2.near) := HFd.out.new et
                obtain ⟨_, _, _, q0, q1, _, _⟩ := HFt.out.cells
                have hSt : wt.cell? ⟨bm, 0, none⟩ = some (.map (some (b))) ∧ wt.cell? ⟨bm, 1, none⟩ = some (v) := ⟨q0, q1⟩
                refine hKa.out _ _ (fun _ => hSt) ?_
                clear hKa Ka et hUm hS q0 q1
                try simp only [Act.put, List.setIfInBounds_toArray, List.set_cons_zero, List.set_cons_succ]
                refine wpAnyL_take (i := 4) 176 (v := .bool false) rfl rfl (by kernel_rfl) (by kernel_rfl) (by kernel_rfl) (by kernel_rfl) (by kernel_rfl) (by kernel_rfl) (fun _ _ _ h => h) hSt (by rfl) (by intro w' hSw; obtain ⟨y1, y2⟩ := hSw; go_simp <;> with_reducible rfl) ?_
                simp only [Act.put, List.setIfInBounds_toArray, List.set_cons_zero, List.set_cons_succ]
                refine wpAnyL_take (i := 5) 177 (v := .bool false) rfl rfl (by kernel_rfl) (by kernel_rfl) (by kernel_rfl) (by kernel_rfl) (by kernel_rfl) (by kernel_rfl) (fun _ _ _ h => h) hSt (by rfl) (by intro w' hSw; obtain ⟨y1, y2⟩ := hSw; go_simp <;> with_reducible rfl) ?_
                simp only [Act.put, List.setIfInBounds_toArray, List.set_cons_zero, List.set_cons_succ]
                refine wpAnyL_take (i := 6) 178 (v := .pointer (some ⟨qs, 0, none⟩)) rfl rfl (by kernel_rfl) (by kernel_rfl) (by kernel_rfl) (by kernel_rfl) (by kernel_rfl) (by kernel_rfl) (fun _ _ _ h => h) hSt (by rfl) (by intro w' hSw; obtain ⟨y1, y2⟩ := hSw; go_simp <;> with_reducible rfl) ?_
                simp only [Act.put, List.setIfInBounds_toArray, List.set_cons_zero, List.set_cons_succ]
                refine wpAnyL_take (i := 8) 180 (v := .int .i64 K2.sp) rfl rfl (by kernel_rfl) (by kernel_rfl) (by kernel_rfl) (by kernel_rfl) (by kernel_rfl) (by kernel_rfl) (fun _ _ _ h => h) hSt (by rfl) (by intro w' hSw; obtain ⟨y1, y2⟩ := hSw; go_simp <;> with_reducible rfl) ?_
                simp only [Act.put, List.setIfInBounds_toArray, List.set_cons_zero, List.set_cons_succ]
                have hSp := sspills HFt.out.pl.sa
                refine wpAnyL_one (i := 7) (by kernel_rfl) rfl (fun Ka hKa => ?_)
                go_simp
                refine Calls.mono hSp ?_
                rintro r w5 ⟨rfl, hw5⟩
                rw [hw5]
                refine hKa.out _ _ (fun _ => hSt) ?_
                clear hKa Ka hw5 hSp
                try simp only [Act.put, List.setIfInBounds_toArray, List.set_cons_zero, List.set_cons_succ]
                refine wpAnyL_take (i := 9) 181 (v := .bool false) rfl rfl (by kernel_rfl) (by kernel_rfl) (by kernel_rfl) (by kernel_rfl) (by kernel_rfl) (by kernel_rfl) (fun _ _ _ h => h) hSt (by rfl) (by intro w' hSw; obtain ⟨y1, y2⟩ := hSw; go_simp <;> with_reducible rfl) ?_
                simp only [Act.put, List.setIfInBounds_toArray, List.set_cons_zero, List.set_cons_succ]
                refine wpAnyL_take (i := 10) 182 (v := .bool false) rfl rfl (by kernel_rfl) (by kernel_rfl) (by kernel_rfl) (by kernel_rfl) (by kernel_rfl) (by kernel_rfl) (fun _ _ _ h => h) hSt (by rfl) (by intro w' hSw; obtain ⟨y1, y2⟩ := hSw; go_simp <;> with_reducible rfl) ?_
                simp only [Act.put, List.setIfInBounds_toArray, List.set_cons_zero, List.set_cons_succ]
                refine wpAnyL_done (by kernel_rfl) ?_ _
                have hNb : Calls Tryz.prog 16 #[.pointer (some ⟨qs, 0, none⟩), .agg #[.map (some (b)), v]] wt fun r w' => r = .returned (.bool true) ∧ Below wt.heap.size wt w' := lnumbers HFt.out.pl.sa HFt.out.pl.mp (by obtain ⟨a, c, e⟩ := HFt.out.pl.row.shape; exact ⟨a, _, c, e⟩)
                obtain ⟨_, _, _, q0, q1, _, _⟩ := HFt.out.cells
                clear hSt
                go_wp2_with (go_at_call 16; refine Calls.mono hNb ?_; rintro r w8 ⟨rfl, e1⟩; have HB8 : Hid (Below wt.heap.size wt w8) := e1; clear e1 hNb)
                go_roundw
                case rel => exact ⟨k + 1, K2, hlt, h80, by go_num, by rfl, ⟨⟨_, _, _, (HFt.out.new HB8.out).pl⟩, HSq.out.2.1, HSq.out.2.2⟩⟩
                case measure => simp [intOf]; omega
            · have hn5 := k5
              by_cases k6 : yk = 6
              · subst k6
                as_aux_lemma =>
                  have hG := sget (n := yn) HX.out.pl.sa HX.out.pl.low (by omega) hin (by have := HE.out.sp; omega)
                  rw [hf] at hG
                  change Calls _ _ _ _ (fun r w' => r = .returned (.tuple #[.string (str []), .int .i64 2]) ∧ _) at hG
                  have hst : (str []).toList = [] := str_toList _
                  go_upto_region 25 with (go_at_call 7; refine Calls.mono hG ?_; rintro r w6 ⟨rfl, e1⟩; have HX6 : Hid (PlX w qs B bm ab y w6 Xm b v (K.getK yn) (256 * k + 16) K.f K.near) := HX.out.call e1; clear e1 hG)
                  clear d0 d1 d2 m0 m1 g0 g1 hlk
                  have HF : Hid (PlX w qs B bm ab y w6 Xm b v K (256 * k + 256) K.f K.near) := by
                    have h := HX6.out.mono (d := 256 * k + 256) (by omega)
                    have e1 : K.getK yn = K := by unfold St.getK; rw [hf]
                    rw [e1] at h
                    exact h
                  have HSq : Hid ((K).sp = K.sp + 0 ∧ (K).bud = bud ∧ (K).sp ≤ 16 * (k + 1)) := ⟨rfl, HE.out.bud, by have h1 := HE.out.sp; omega⟩
                  have hsb : K.sp ≤ 16 * 80 := by have := HE.out.sp; omega
                  have hgb : 0 ≤ 16 * 81 := by have := HSq.out.1; have := HSq.out.2.2; omega
                  go_upto_region 38 with (fail)
                  have hE8 : (K.sp : Int) + ((0 : Nat) : Int) = (((K).sp : Nat) : Int) := by rw [HSq.out.1]; simp
                  try simp only [Int.add_zero, Int.natCast_zero, Int.ofNat_zero] at hE8
                  try rw [hE8]
                  clear hE8 hsb hgb
                  obtain ⟨K2, hK2⟩ : ∃ K2, K = K2 := ⟨_, rfl⟩
                  rw [hK2] at HF HSq ⊢
                  clear hK2
                  have hsp2 : K2.sp ≤ 100000 := by have := HSq.out.2.2; omega
                  obtain ⟨T2, hT2⟩ : ∃ T2, totL K2.f K2.near = T2 := ⟨_, rfl⟩
                  have hok2 := HF.out.pl.sa.ok
                  have hby : byt (heldO K2.f K2.near) K2.near = T2 := by rw [← hT2]; exact held_tot K2.f K2.near K2.near (fun _ h => h)
                  obtain ⟨Wd, hWd⟩ : ∃ Wd, (w6).drew = Wd := ⟨_, rfl⟩
                  have bd : Below (w6).heap.size (w6) Wd := by rw [← hWd]; exact Below.drew (Below.refl _ _)
                  have HFd : Hid (PlX w qs B bm ab y Wd (Xm) (b) (v) K2 (256 * k + 256) K2.f K2.near) := HF.out.new bd
                  have hUd := sused HFd.out.pl.sa
                  rw [hby] at hUd
                  have HUm : Hid (∀ V, Below Wd.heap.size Wd V → Calls Tryz.prog 14 #[.agg #[.map (some (b)), v]] V fun r w' => r = .returned (.int .i64 T2) ∧ Below V.heap.size V w') := fun V hV => by
                    have h2 := HFd.out.new hV
                    have := mused h2.pl.mp h2.pl.row.toS (by have := hok2.few; omega) (fun x hx => by have := hok2.sup x (hok2.sub x hx); exact i6_few this.1 this.2) (st_lenO hok2)
                    rw [hT2] at this
                    exact this
                  have htb : T2 ≤ 16 * 140737488351232 := by
                    rw [← hT2]
                    refine Nat.le_trans (totL_le K2.near (fun x _ => st_lenO hok2 x)) (Nat.mul_le_mul_right _ hok2.few)
                  obtain ⟨_, _, _, q0, q1, _, _⟩ := HFd.out.cells
                  have hS : Wd.cell? ⟨bm, 0, none⟩ = some (.map (some (b))) ∧ Wd.cell? ⟨bm, 1, none⟩ = some (v) := ⟨q0, q1⟩
                  clear q0 q1 bd hby hT2 hok2
                  refine wp_calmD ?_
                  refine wp_region_L [] (fun W : World => W.cell? ⟨bm, 0, none⟩ = some (.map (some (b))) ∧ W.cell? ⟨bm, 1, none⟩ = some (v)) (by kernel_rfl) ?_
                  rw [hWd]
                  clear hWd
                  refine wpAnyL_take (i := 0) 172 (v := .pointer (some ⟨qs, 0, none⟩)) rfl rfl (by kernel_rfl) (by kernel_rfl) (by kernel_rfl) (by kernel_rfl) (by kernel_rfl) (by kernel_rfl) (fun _ _ _ h => h) hS (by rfl) (by intro w' hSw; obtain ⟨y1, y2⟩ := hSw; go_simp <;> with_reducible rfl) ?_
                  simp only [Act.put, List.setIfInBounds_toArray, List.set_cons_zero, List.set_cons_succ]
                  refine wpAnyL_take (i := 2) 174 (v := .agg #[.map (some (b)), v]) rfl rfl (by kernel_rfl) (by kernel_rfl) (by kernel_rfl) (by kernel_rfl) (by kernel_rfl) (by kernel_rfl) (fun _ _ _ h => h) hS (by rfl) (by intro w' hSw; obtain ⟨y1, y2⟩ := hSw; go_simp <;> with_reducible rfl) ?_
                  simp only [Act.put, List.setIfInBounds_toArray, List.set_cons_zero, List.set_cons_succ]
                  refine wpAnyL_one (i := 1) (by kernel_rfl) rfl (fun Ka hKa => ?_)
                  go_simp
                  refine Calls.mono hUd ?_
                  rintro r w5 ⟨rfl, hw5⟩
                  rw [hw5]
                  refine hKa.out _ _ (fun _ => hS) ?_
                  clear hKa Ka hw5 hUd
                  try simp only [Act.put, List.setIfInBounds_toArray, List.set_cons_zero, List.set_cons_succ]
                  have hUm := HUm.out Wd (Below.refl _ _)
                  refine wpAnyL_one (i := 3) (by kernel_rfl) rfl (fun Ka hKa => ?_)
                  go_simp
                  refine Calls.mono hUm ?_
                  rintro r wt ⟨rfl, et⟩
                  have HFt : Hid (PlX w qs B bm ab y wt (Xm) (b) (v) K2 (256 * k + 256) K2.f K2.near) := HFd.out.new et
                  obtain ⟨_, _, _, q0, q1, _, _⟩ := HFt.out.cells
                  have hSt : wt.cell? ⟨bm, 0, none⟩ = some (.map (some (b))) ∧ wt.cell? ⟨bm, 1, none⟩ = some (v) := ⟨q0, q1⟩
                  refine hKa.out _ _ (fun _ => hSt) ?_
                  clear hKa Ka et hUm hS q0 q1
                  try simp only [Act.put, List.setIfInBounds_toArray, List.set_cons_zero, List.set_cons_succ]
                  refine wpAnyL_take (i := 4) 176 (v := .bool false) rfl rfl (by kernel_rfl) (by kernel_rfl) (by kernel_rfl) (by kernel_rfl) (by kernel_rfl) (by kernel_rfl) (fun _ _ _ h => h) hSt (by rfl) (by intro w' hSw; obtain ⟨y1, y2⟩ := hSw; go_simp <;> with_reducible rfl) ?_
                  simp only [Act.put, List.setIfInBounds_toArray, List.set_cons_zero, List.set_cons_succ]
                  refine wpAnyL_take (i := 5) 177 (v := .bool false) rfl rfl (by kernel_rfl) (by kernel_rfl) (by kernel_rfl) (by kernel_rfl) (by kernel_rfl) (by kernel_rfl) (fun _ _ _ h => h) hSt (by rfl) (by intro w' hSw; obtain ⟨y1, y2⟩ := hSw; go_simp <;> with_reducible rfl) ?_
                  simp only [Act.put, List.setIfInBounds_toArray, List.set_cons_zero, List.set_cons_succ]
                  refine wpAnyL_take (i := 6) 178 (v := .pointer (some ⟨qs, 0, none⟩)) rfl rfl (by kernel_rfl) (by kernel_rfl) (by kernel_rfl) (by kernel_rfl) (by kernel_rfl) (by kernel_rfl) (fun _ _ _ h => h) hSt (by rfl) (by intro w' hSw; obtain ⟨y1, y2⟩ := hSw; go_simp <;> with_reducible rfl) ?_
                  simp only [Act.put, List.setIfInBounds_toArray, List.set_cons_zero, List.set_cons_succ]
                  refine wpAnyL_take (i := 8) 180 (v := .int .i64 K2.sp) rfl rfl (by kernel_rfl) (by kernel_rfl) (by kernel_rfl) (by kernel_rfl) (by kernel_rfl) (by kernel_rfl) (fun _ _ _ h => h) hSt (by rfl) (by intro w' hSw; obtain ⟨y1, y2⟩ := hSw; go_simp <;> with_reducible rfl) ?_
                  simp only [Act.put, List.setIfInBounds_toArray, List.set_cons_zero, List.set_cons_succ]
                  have hSp := sspills HFt.out.pl.sa
                  refine wpAnyL_one (i := 7) (by kernel_rfl) rfl (fun Ka hKa => ?_)
                  go_simp
                  refine Calls.mono hSp ?_
                  rintro r w5 ⟨rfl, hw5⟩
                  rw [hw5]
                  refine hKa.out _ _ (fun _ => hSt) ?_
                  clear hKa Ka hw5 hSp
                  try simp only [Act.put, List.setIfInBounds_toArray, List.set_cons_zero, List.set_cons_succ]
                  refine wpAnyL_take (i := 9) 181 (v := .bool false) rfl rfl (by kernel_rfl) (by kernel_rfl) (by kernel_rfl) (by kernel_rfl) (by kernel_rfl) (by kernel_rfl) (fun _ _ _ h => h) hSt (by rfl) (by intro w' hSw; obtain ⟨y1, y2⟩ := hSw; go_simp <;> with_reducible rfl) ?_
                  simp only [Act.put, List.setIfInBounds_toArray, List.set_cons_zero, List.set_cons_succ]
                  refine wpAnyL_take (i := 10) 182 (v := .bool false) rfl rfl (by kernel_rfl) (by kernel_rfl) (by kernel_rfl) (by kernel_rfl) (by kernel_rfl) (by kernel_rfl) (fun _ _ _ h => h) hSt (by rfl) (by intro w' hSw; obtain ⟨y1, y2⟩ := hSw; go_simp <;> with_reducible rfl) ?_
                  simp only [Act.put, List.setIfInBounds_toArray, List.set_cons_zero, List.set_cons_succ]
                  refine wpAnyL_done (by kernel_rfl) ?_ _
                  have hNb : Calls Tryz.prog 16 #[.pointer (some ⟨qs, 0, none⟩), .agg #[.map (some (b)), v]] wt fun r w' => r = .returned (.bool true) ∧ Below wt.heap.size wt w' := lnumbers HFt.out.pl.sa HFt.out.pl.mp (by obtain ⟨a, c, e⟩ := HFt.out.pl.row.shape; exact ⟨a, _, c, e⟩)
                  obtain ⟨_, _, _, q0, q1, _, _⟩ := HFt.out.cells
                  clear hSt
                  go_wp2_with (go_at_call 16; refine Calls.mono hNb ?_; rintro r w8 ⟨rfl, e1⟩; have HB8 : Hid (Below wt.heap.size wt w8) := e1; clear e1 hNb)
                  go_roundw
                  case rel => exact ⟨k + 1, K2, hlt, h80, by go_num, by rfl, ⟨⟨_, _, _, (HFt.out.new HB8.out).pl⟩, HSq.out.2.1, HSq.out.2.2⟩⟩
                  case measure => simp [intOf]; omega
              · have hn6 := k6
                by_cases k7 : yk = 7
                · subst k7
                  as_aux_lemma =>
                    have hG := sdrop (n := yn) HX.out.pl.sa HX.out.pl.low (by omega) hin
                    rw [hf] at hG
                    change Calls _ _ _ _ (fun r w' => r = .returned (.bool false) ∧ _) at hG
                    go_upto_region 32 with (go_at_call 9; refine Calls.mono hG ?_; rintro r w6 ⟨rfl, e1⟩; have HX6 : Hid (PlX w qs B bm ab y w6 Xm b v (K.dropK yn) (256 * k + 16) K.f K.near) := HX.out.call e1; clear e1 hG)
                    clear d0 d1 d2 m0 m1 g0 g1 hlk
                    obtain ⟨w7, hrun, hm7, hf7⟩ := HX6.out.pl.mp.del mtS hin 0
                    have HX7 : Hid (PlX w qs B bm ab y w7 Xm b v (K.dropK yn) (256 * k + 16) (cutO' K.f yn) K.near) := HX6.out.upd hf7 hm7
                    obtain ⟨d0, d1, d2, m0, m1, g0, g1⟩ := HX6.out.cells
                    rw [hst0.out] at d0 d1 d2
                    simp only at d0 d1 d2
                    clear hm7 hf7
                    go_upto_region 33 with (fail)
                    clear d0 d1 d2 m0 m1 g0 g1 hrun
                    obtain ⟨d0, d1, d2, m0, m1, g0, g1⟩ := HX7.out.cells
                    rw [hst0.out] at d0 d1 d2
                    simp only at d0 d1 d2
                    have hWo := mwithout (n := yn) HX7.out.pl.row.toS (by have := HX.out.pl.sa.ok.few; omega)
                    go_upto_region 37 with (go_at_call 10; refine Calls.mono hWo ?_; rintro r w8 ⟨v7, rfl, e1, e2⟩; obtain ⟨a7, l7, c7, rfl⟩ : ∃ a l c, v7 = .slice a l c := (by obtain ⟨a, c, e⟩ := e1.shape; exact ⟨a, _, c, e⟩); have HX8 : Hid (PlX w qs B bm ab y w8 Xm b v (K.dropK yn) (256 * k + 16) (cutO' K.f yn) K.near) := HX7.out.new e2; have HR8 : Hid (NrO w8 w.heap.size (.slice a7 l7 c7) (woI K.near yn)) := e1.low HX7.out.pl.low; obtain ⟨p0, p1, p2, p3, p4, p5, p6⟩ := HX8.out.cells; rw [hst0.out] at p0 p1 p2; simp only at p0 p1 p2; clear e1 e2 hWo)
                    clear d0 d1 d2 m0 m1 g0 g1 p0 p1 p2 p3 p4 p5 p6
                    have HF : Hid (PlX w qs B bm ab y (w8.setCell ⟨bm, 1, none⟩ (.slice a7 l7 c7)) Xm b (.slice a7 l7 c7) K (256 * k + 256) K.f K.near) := by
                      have h := (HX8.out.set1 HR8.out).mono (d := 256 * k + 256) (by omega)
                      have e1 : K.dropK yn = K := by unfold St.dropK; rw [hf]; rfl
                      have e2 : woI K.near yn = K.near := woI_id (fun hh => by have := HX.out.pl.sa.ok.sub yn hh; rw [hf] at this; cases this)
                      rw [e1, e2, cutO_self hf] at h
                      exact h
                    generalize w8.setCell ⟨bm, 1, none⟩ (.slice a7 l7 c7) = wF at HF ⊢
                    have HSq : Hid ((K).sp = K.sp + 0 ∧ (K).bud = bud ∧ (K).sp ≤ 16 * (k + 1)) := ⟨rfl, HE.out.bud, by have h1 := HE.out.sp; omega⟩
                    have hsb : K.sp ≤ 16 * 80 := by have := HE.out.sp; omega
                    have hgb : 0 ≤ 16 * 81 := by have := HSq.out.1; have := HSq.out.2.2; omega
                    go_upto_region 38 with (fail)
                    have hE8 : (K.sp : Int) + ((0 : Nat) : Int) = (((K).sp : Nat) : Int) := by rw [HSq.out.1]; simp
                    try simp only [Int.add_zero, Int.natCast_zero, Int.ofNat_zero] at hE8
                    try rw [hE8]
                    clear hE8 hsb hgb
                    obtain ⟨K2, hK2⟩ : ∃ K2, K = K2 := ⟨_, rfl⟩
                    rw [hK2] at HF HSq ⊢
                    clear hK2
                    have hsp2 : K2.sp ≤ 100000 := by have := HSq.out.2.2; omega
                    obtain ⟨T2, hT2⟩ : ∃ T2, totL K2.f K2.near = T2 := ⟨_, rfl⟩
                    have hok2 := HF.out.pl.sa.ok
                    have hby : byt (heldO K2.f K2.near) K2.near = T2 := by rw [← hT2]; exact held_tot K2.f K2.near K2.near (fun _ h => h)
                    obtain ⟨Wd, hWd⟩ : ∃ Wd, (wF).drew = Wd := ⟨_, rfl⟩
                    have bd : Below (wF).heap.size (wF) Wd := by rw [← hWd]; exact Below.drew (Below.refl _ _)
                    have HFd : Hid (PlX w qs B bm ab y Wd (Xm) (b) (.slice a7 l7 c7) K2 (256 * k + 256) K2.f K2.near) := HF.out.new bd
                    have hUd := sused HFd.out.pl.sa
                    rw [hby] at hUd
                    have HUm : Hid (∀ V, Below Wd.heap.size Wd V → Calls Tryz.prog 14 #[.agg #[.map (some (b)), .slice a7 l7 c7]] V fun r w' => r = .returned (.int .i64 T2) ∧ Below V.heap.size V w') := fun V hV => by
                      have h2 := HFd.out.new hV
                      have := mused h2.pl.mp h2.pl.row.toS (by have := hok2.few; omega) (fun x hx => by have := hok2.sup x (hok2.sub x hx); exact i6_few this.1 this.2) (st_lenO hok2)
                      rw [hT2] at this
                      exact this
                    have htb : T2 ≤ 16 * 140737488351232 := by
                      rw [← hT2]
                      refine Nat.le_trans (totL_le K2.near (fun x _ => st_lenO hok2 x)) (Nat.mul_le_mul_right _ hok2.few)
                    obtain ⟨_, _, _, q0, q1, _, _⟩ := HFd.out.cells
                    have hS : Wd.cell? ⟨bm, 0, none⟩ = some (.map (some (b))) ∧ Wd.cell? ⟨bm, 1, none⟩ = some (.slice a7 l7 c7) := ⟨q0, q1⟩
                    clear q0 q1 bd hby hT2 hok2
                    refine wp_calmD ?_
                    refine wp_region_L [] (fun W : World => W.cell? ⟨bm, 0, none⟩ = some (.map (some (b))) ∧ W.cell? ⟨bm, 1, none⟩ = some (.slice a7 l7 c7)) (by kernel_rfl) ?_
                    rw [hWd]
                    clear hWd
                    refine wpAnyL_take (i := 0) 172 (v := .pointer (some ⟨qs, 0, none⟩)) rfl rfl (by kernel_rfl) (by kernel_rfl) (by kernel_rfl) (by kernel_rfl) (by kernel_rfl) (by kernel_rfl) (fun _ _ _ h => h) hS (by rfl) (by intro w' hSw; obtain ⟨y1, y2⟩ := hSw; go_simp <;> with_reducible rfl) ?_
                    simp only [Act.put, List.setIfInBounds_toArray, List.set_cons_zero, List.set_cons_succ]
                    refine wpAnyL_take (i := 2) 174 (v := .agg #[.map (some (b)), .slice a7 l7 c7]) rfl rfl (by kernel_rfl) (by kernel_rfl) (by kernel_rfl) (by kernel_rfl) (by kernel_rfl) (by kernel_rfl) (fun _ _ _ h => h) hS (by rfl) (by intro w' hSw; obtain ⟨y1, y2⟩ := hSw; go_simp <;> with_reducible rfl) ?_
                    simp only [Act.put, List.setIfInBounds_toArray, List.set_cons_zero, List.set_cons_succ]
                    refine wpAnyL_one (i := 1) (by kernel_rfl) rfl (fun Ka hKa => ?_)
                    go_simp
                    refine Calls.mono hUd ?_
                    rintro r w5 ⟨rfl, hw5⟩
                    rw [hw5]
                    refine hKa.out _ _ (fun _ => hS) ?_
                    clear hKa Ka hw5 hUd
                    try simp only [Act.put, List.setIfInBounds_toArray, List.set_cons_zero, List.set_cons_succ]
                    have hUm := HUm.out Wd (Below.refl _ _)
                    refine wpAnyL_one (i := 3) (by kernel_rfl) rfl (fun Ka hKa => ?_)
                    go_simp
                    refine Calls.mono hUm ?_
                    rintro r wt ⟨rfl, et⟩
                    have HFt : Hid (PlX w qs B bm ab y wt (Xm) (b) (.slice a7 l7 c7) K2 (256 * k + 256) K2.f K2.near) := HFd.out.new et
                    obtain ⟨_, _, _, q0, q1, _, _⟩ := HFt.out.cells
                    have hSt : wt.cell? ⟨bm, 0, none⟩ = some (.map (some (b))) ∧ wt.cell? ⟨bm, 1, none⟩ = some (.slice a7 l7 c7) := ⟨q0, q1⟩
                    refine hKa.out _ _ (fun _ => hSt) ?_
                    clear hKa Ka et hUm hS q0 q1
                    try simp only [Act.put, List.setIfInBounds_toArray, List.set_cons_zero, List.set_cons_succ]
                    refine wpAnyL_take (i := 4) 176 (v := .bool false) rfl rfl (by kernel_rfl) (by kernel_rfl) (by kernel_rfl) (by kernel_rfl) (by kernel_rfl) (by kernel_rfl) (fun _ _ _ h => h) hSt (by rfl) (by intro w' hSw; obtain ⟨y1, y2⟩ := hSw; go_simp <;> with_reducible rfl) ?_
                    simp only [Act.put, List.setIfInBounds_toArray, List.set_cons_zero, List.set_cons_succ]
                    refine wpAnyL_take (i := 5) 177 (v := .bool false) rfl rfl (by kernel_rfl) (by kernel_rfl) (by kernel_rfl) (by kernel_rfl) (by kernel_rfl) (by kernel_rfl) (fun _ _ _ h => h) hSt (by rfl) (by intro w' hSw; obtain ⟨y1, y2⟩ := hSw; go_simp <;> with_reducible rfl) ?_
                    simp only [Act.put, List.setIfInBounds_toArray, List.set_cons_zero, List.set_cons_succ]
                    refine wpAnyL_take (i := 6) 178 (v := .pointer (some ⟨qs, 0, none⟩)) rfl rfl (by kernel_rfl) (by kernel_rfl) (by kernel_rfl) (by kernel_rfl) (by kernel_rfl) (by kernel_rfl) (fun _ _ _ h => h) hSt (by rfl) (by intro w' hSw; obtain ⟨y1, y2⟩ := hSw; go_simp <;> with_reducible rfl) ?_
                    simp only [Act.put, List.setIfInBounds_toArray, List.set_cons_zero, List.set_cons_succ]
                    refine wpAnyL_take (i := 8) 180 (v := .int .i64 K2.sp) rfl rfl (by kernel_rfl) (by kernel_rfl) (by kernel_rfl) (by kernel_rfl) (by kernel_rfl) (by kernel_rfl) (fun _ _ _ h => h) hSt (by rfl) (by intro w' hSw; obtain ⟨y1, y2⟩ := hSw; go_simp <;> with_reducible rfl) ?_
                    simp only [Act.put, List.setIfInBounds_toArray, List.set_cons_zero, List.set_cons_succ]
                    have hSp := sspills HFt.out.pl.sa
                    refine wpAnyL_one (i := 7) (by kernel_rfl) rfl (fun Ka hKa => ?_)
                    go_simp
                    refine Calls.mono hSp ?_
                    rintro r w5 ⟨rfl, hw5⟩
                    rw [hw5]
                    refine hKa.out _ _ (fun _ => hSt) ?_
                    clear hKa Ka hw5 hSp
                    try simp only [Act.put, List.setIfInBounds_toArray, List.set_cons_zero, List.set_cons_succ]
                    refine wpAnyL_take (i := 9) 181 (v := .bool false) rfl rfl (by kernel_rfl) (by kernel_rfl) (by kernel_rfl) (by kernel_rfl) (by kernel_rfl) (by kernel_rfl) (fun _ _ _ h => h) hSt (by rfl) (by intro w' hSw; obtain ⟨y1, y2⟩ := hSw; go_simp <;> with_reducible rfl) ?_
                    simp only [Act.put, List.setIfInBounds_toArray, List.set_cons_zero, List.set_cons_succ]
                    refine wpAnyL_take (i := 10) 182 (v := .bool false) rfl rfl (by kernel_rfl) (by kernel_rfl) (by kernel_rfl) (by kernel_rfl) (by kernel_rfl) (by kernel_rfl) (fun _ _ _ h => h) hSt (by rfl) (by intro w' hSw; obtain ⟨y1, y2⟩ := hSw; go_simp <;> with_reducible rfl) ?_
                    simp only [Act.put, List.setIfInBounds_toArray, List.set_cons_zero, List.set_cons_succ]
                    refine wpAnyL_done (by kernel_rfl) ?_ _
                    have hNb : Calls Tryz.prog 16 #[.pointer (some ⟨qs, 0, none⟩), .agg #[.map (some (b)), .slice a7 l7 c7]] wt fun r w' => r = .returned (.bool true) ∧ Below wt.heap.size wt w' := lnumbers HFt.out.pl.sa HFt.out.pl.mp (by obtain ⟨a, c, e⟩ := HFt.out.pl.row.shape; exact ⟨a, _, c, e⟩)
                    obtain ⟨_, _, _, q0, q1, _, _⟩ := HFt.out.cells
                    clear hSt
                    go_wp2_with (go_at_call 16; refine Calls.mono hNb ?_; rintro r w8 ⟨rfl, e1⟩; have HB8 : Hid (Below wt.heap.size wt w8) := e1; clear e1 hNb)
                    go_roundw
                    case rel => exact ⟨k + 1, K2, hlt, h80, by go_num, by rfl, ⟨⟨_, _, _, (HFt.out.new HB8.out).pl⟩, HSq.out.2.1, HSq.out.2.2⟩⟩
                    case measure => simp [intOf]; omega
                · by_cases k8 : yk = 8
                  · subst k8
                    as_aux_lemma =>
                      have hG := sclear HX.out.pl.sa HX.out.pl.low (by omega)
                      go_upto_region 36 with (go_at_call 11; refine Calls.mono hG ?_; rintro r w6 ⟨rfl, e1⟩; have HX6 : Hid (PlX w qs B bm ab y w6 Xm b v K.clr (256 * k + 256) K.f K.near) := HX.out.call e1; clear e1 hG)
                      clear d0 d1 d2 m0 m1 g0 g1 hlk
                      have hmm := @run_makeMap Tryz.prog
                      have hbA : (w6.alloc (.map #[] 0)).heap[bm]? = some (.cells #[.map (some b), v] 33 (0, 0)) := ((gone_new w6 (.map #[] 0)).block bm (lt_blk HX6.out.pl.bx)).trans HX6.out.pl.bx
                      have HbA : Hid ((w6.alloc (.map #[] 0)).heap[bm]? = some (.cells #[.map (some b), v] 33 (0, 0))) := hbA
                      clear hbA
                      go_upto_region 37 with (refine wpList_store_row rfl 33 _ _ rfl _ #[.map (some w6.heap.size), .slice none 0 0] rfl rfl 33 #[.map (some b), v] HbA.out size_model rfl (by simp [Value.oneCell']) ?_)
                      clear hmm HbA
                      obtain ⟨Xn, hF⟩ := HX6.out.anew
                      have HF : Hid (PlX w qs B bm ab y ((w6.alloc (.map #[] 0)).setRow bm #[.map (some w6.heap.size), .slice none 0 0]) Xn w6.heap.size (.slice none 0 0) K.clr (256 * k + 256) K.clr.f K.clr.near) := hF
                      clear hF
                      generalize (w6.alloc (.map #[] 0)).setRow bm #[.map (some w6.heap.size), .slice none 0 0] = wF at HF ⊢
                      generalize w6.heap.size = b' at HF ⊢
                      have HSq : Hid ((K.clr).sp = K.sp + 0 ∧ (K.clr).bud = bud ∧ (K.clr).sp ≤ 16 * (k + 1)) := ⟨rfl, HE.out.bud, by have h1 := HE.out.sp; show K.sp ≤ _; omega⟩
                      have hsb : K.sp ≤ 16 * 80 := by have := HE.out.sp; omega
                      have hgb : 0 ≤ 16 * 81 := by have := HSq.out.1; have := HSq.out.2.2; omega
                      go_upto_region 38 with (fail)
                      have hE8 : (K.sp : Int) + ((0 : Nat) : Int) = (((K.clr).sp : Nat) : Int) := by rw [HSq.out.1]; simp
                      try simp only [Int.add_zero, Int.natCast_zero, Int.ofNat_zero] at hE8
                      try rw [hE8]
                      clear hE8 hsb hgb
                      obtain ⟨K2, hK2⟩ : ∃ K2, K.clr = K2 := ⟨_, rfl⟩
                      rw [hK2] at HF HSq ⊢
                      clear hK2
                      have hsp2 : K2.sp ≤ 100000 := by have := HSq.out.2.2; omega
                      obtain ⟨T2, hT2⟩ : ∃ T2, totL K2.f K2.near = T2 := ⟨_, rfl⟩
                      have hok2 := HF.out.pl.sa.ok
                      have hby : byt (heldO K2.f K2.near) K2.near = T2 := by rw [← hT2]; exact held_tot K2.f K2.near K2.near (fun _ h => h)
                      obtain ⟨Wd, hWd⟩ : ∃ Wd, (wF).drew = Wd := ⟨_, rfl⟩
                      have bd : Below (wF).heap.size (wF) Wd := by rw [← hWd]; exact Below.drew (Below.refl _ _)
                      have HFd : Hid (PlX w qs B bm ab y Wd (Xn) (b') (.slice none 0 0) K2 (256 * k + 256) K2.f K2.near) := HF.out.new bd
                      have hUd := sused HFd.out.pl.sa
                      rw [hby] at hUd
                      have HUm : Hid (∀ V, Below Wd.heap.size Wd V → Calls Tryz.prog 14 #[.agg #[.map (some (b')), .slice none 0 0]] V fun r w' => r = .returned (.int .i64 T2) ∧ Below V.heap.size V w') := fun V hV => by
                        have h2 := HFd.out.new hV
                        have := mused h2.pl.mp h2.pl.row.toS (by have := hok2.few; omega) (fun x hx => by have := hok2.sup x (hok2.sub x hx); exact i6_few this.1 this.2) (st_lenO hok2)
                        rw [hT2] at this
                        exact this
                      have htb : T2 ≤ 16 * 140737488351232 := by
                        rw [← hT2]
                        refine Nat.le_trans (totL_le K2.near (fun x _ => st_lenO hok2 x)) (Nat.mul_le_mul_right _ hok2.few)
                      obtain ⟨_, _, _, q0, q1, _, _⟩ := HFd.out.cells
                      have hS : Wd.cell? ⟨bm, 0, none⟩ = some (.map (some (b'))) ∧ Wd.cell? ⟨bm, 1, none⟩ = some (.slice none 0 0) := ⟨q0, q1⟩
                      clear q0 q1 bd hby hT2 hok2
                      refine wp_calmD ?_
                      refine wp_region_L [] (fun W : World => W.cell? ⟨bm, 0, none⟩ = some (.map (some (b'))) ∧ W.cell? ⟨bm, 1, none⟩ = some (.slice none 0 0)) (by kernel_rfl) ?_
                      rw [hWd]
                      clear hWd
                      refine wpAnyL_take (i := 0) 172 (v := .pointer (some ⟨qs, 0, none⟩)) rfl rfl (by kernel_rfl) (by kernel_rfl) (by kernel_rfl) (by kernel_rfl) (by kernel_rfl) (by kernel_rfl) (fun _ _ _ h => h) hS (by rfl) (by intro w' hSw; obtain ⟨y1, y2⟩ := hSw; go_simp <;> with_reducible rfl) ?_
                      simp only [Act.put, List.setIfInBounds_toArray, List.set_cons_zero, List.set_cons_succ]
                      refine wpAnyL_take (i := 2) 174 (v := .agg #[.map (some (b')), .slice none 0 0]) rfl rfl (by kernel_rfl) (by kernel_rfl) (by kernel_rfl) (by kernel_rfl) (by kernel_rfl) (by kernel_rfl) (fun _ _ _ h => h) hS (by rfl) (by intro w' hSw; obtain ⟨y1, y2⟩ := hSw; go_simp <;> with_reducible rfl) ?_
                      simp only [Act.put, List.setIfInBounds_toArray, List.set_cons_zero, List.set_cons_succ]
                      refine wpAnyL_one (i := 1) (by kernel_rfl) rfl (fun Ka hKa => ?_)
                      go_simp
                      refine Calls.mono hUd ?_
                      rintro r w5 ⟨rfl, hw5⟩
                      rw [hw5]
                      refine hKa.out _ _ (fun _ => hS) ?_
                      clear hKa Ka hw5 hUd
                      try simp only [Act.put, List.setIfInBounds_toArray, List.set_cons_zero, List.set_cons_succ]
                      have hUm := HUm.out Wd (Below.refl _ _)
                      refine wpAnyL_one (i := 3) (by kernel_rfl) rfl (fun Ka hKa => ?_)
                      go_simp
                      refine Calls.mono hUm ?_
                      rintro r wt ⟨rfl, et⟩
                      have HFt : Hid (PlX w qs B bm ab y wt (Xn) (b') (.slice none 0 0) K2 (256 * k + 256) K2.f K2.near) := HFd.out.new et
                      obtain ⟨_, _, _, q0, q1, _, _⟩ := HFt.out.cells
                      have hSt : wt.cell? ⟨bm, 0, none⟩ = some (.map (some (b'))) ∧ wt.cell? ⟨bm, 1, none⟩ = some (.slice none 0 0) := ⟨q0, q1⟩
                      refine hKa.out _ _ (fun _ => hSt) ?_
                      clear hKa Ka et hUm hS q0 q1
                      try simp only [Act.put, List.setIfInBounds_toArray, List.set_cons_zero, List.set_cons_succ]
                      refine wpAnyL_take (i := 4) 176 (v := .bool false) rfl rfl (by kernel_rfl) (by kernel_rfl) (by kernel_rfl) (by kernel_rfl) (by kernel_rfl) (by kernel_rfl) (fun _ _ _ h => h) hSt (by rfl) (by intro w' hSw; obtain ⟨y1, y2⟩ := hSw; go_simp <;> with_reducible rfl) ?_
                      simp only [Act.put, List.setIfInBounds_toArray, List.set_cons_zero, List.set_cons_succ]
                      refine wpAnyL_take (i := 5) 177 (v := .bool false) rfl rfl (by kernel_rfl) (by kernel_rfl) (by kernel_rfl) (by kernel_rfl) (by kernel_rfl) (by kernel_rfl) (fun _ _ _ h => h) hSt (by rfl) (by intro w' hSw; obtain ⟨y1, y2⟩ := hSw; go_simp <;> with_reducible rfl) ?_
                      simp only [Act.put, List.setIfInBounds_toArray, List.set_cons_zero, List.set_cons_succ]
                      refine wpAnyL_take (i := 6) 178 (v := .pointer (some ⟨qs, 0, none⟩)) rfl rfl (by kernel_rfl) (by kernel_rfl) (by kernel_rfl) (by kernel_rfl) (by kernel_rfl) (by kernel_rfl) (fun _ _ _ h => h) hSt (by rfl) (by intro w' hSw; obtain ⟨y1, y2⟩ := hSw; go_simp <;> with_reducible rfl) ?_
                      simp only [Act.put, List.setIfInBounds_toArray, List.set_cons_zero, List.set_cons_succ]
                      refine wpAnyL_take (i := 8) 180 (v := .int .i64 K2.sp) rfl rfl (by kernel_rfl) (by kernel_rfl) (by kernel_rfl) (by kernel_rfl) (by kernel_rfl) (by kernel_rfl) (fun _ _ _ h => h) hSt (by rfl) (by intro w' hSw; obtain ⟨y1, y2⟩ := hSw; go_simp <;> with_reducible rfl) ?_
                      simp only [Act.put, List.setIfInBounds_toArray, List.set_cons_zero, List.set_cons_succ]
                      have hSp := sspills HFt.out.pl.sa
                      refine wpAnyL_one (i := 7) (by kernel_rfl) rfl (fun Ka hKa => ?_)
                      go_simp
                      refine Calls.mono hSp ?_
                      rintro r w5 ⟨rfl, hw5⟩
                      rw [hw5]
                      refine hKa.out _ _ (fun _ => hSt) ?_
                      clear hKa Ka hw5 hSp
                      try simp only [Act.put, List.setIfInBounds_toArray, List.set_cons_zero, List.set_cons_succ]
                      refine wpAnyL_take (i := 9) 181 (v := .bool false) rfl rfl (by kernel_rfl) (by kernel_rfl) (by kernel_rfl) (by kernel_rfl) (by kernel_rfl) (by kernel_rfl) (fun _ _ _ h => h) hSt (by rfl) (by intro w' hSw; obtain ⟨y1, y2⟩ := hSw; go_simp <;> with_reducible rfl) ?_
                      simp only [Act.put, List.setIfInBounds_toArray, List.set_cons_zero, List.set_cons_succ]
                      refine wpAnyL_take (i := 10) 182 (v := .bool false) rfl rfl (by kernel_rfl) (by kernel_rfl) (by kernel_rfl) (by kernel_rfl) (by kernel_rfl) (by kernel_rfl) (fun _ _ _ h => h) hSt (by rfl) (by intro w' hSw; obtain ⟨y1, y2⟩ := hSw; go_simp <;> with_reducible rfl) ?_
                      simp only [Act.put, List.setIfInBounds_toArray, List.set_cons_zero, List.set_cons_succ]
                      refine wpAnyL_done (by kernel_rfl) ?_ _
                      have hNb : Calls Tryz.prog 16 #[.pointer (some ⟨qs, 0, none⟩), .agg #[.map (some (b')), .slice none 0 0]] wt fun r w' => r = .returned (.bool true) ∧ Below wt.heap.size wt w' := lnumbers HFt.out.pl.sa HFt.out.pl.mp (by obtain ⟨a, c, e⟩ := HFt.out.pl.row.shape; exact ⟨a, _, c, e⟩)
                      obtain ⟨_, _, _, q0, q1, _, _⟩ := HFt.out.cells
                      clear hSt
                      go_wp2_with (go_at_call 16; refine Calls.mono hNb ?_; rintro r w8 ⟨rfl, e1⟩; have HB8 : Hid (Below wt.heap.size wt w8) := e1; clear e1 hNb)
                      go_roundw
                      case rel => exact ⟨k + 1, K2, hlt, h80, by go_num, by rfl, ⟨⟨_, _, _, (HFt.out.new HB8.out).pl⟩, HSq.out.2.1, HSq.out.2.2⟩⟩
                      case measure => simp [intOf]; omega
                  · have hn8 := k8
                    as_aux_lemma =>
                      have hG := sput (n := yn) (t := ys) HX.out.pl.sa HX.out.pl.low (by omega) hsl (by have := HE.out.sp; omega)
                      rw [if_neg ho] at hG
                      go_upto_region 16 with (go_at_call 12; refine Calls.mono hG ?_; rintro r w6 ⟨rfl, e1⟩; have HX6 : Hid (PlX w qs B bm ab y w6 Xm b v (K.putK yn ys) (256 * k + 16) K.f K.near) := HX.out.call e1; clear e1 hG)
                      clear d0 d1 d2 m0 m1 g0 g1 hlk
                      have HF : Hid (PlX w qs B bm ab y w6 Xm b v K (256 * k + 256) K.f K.near) := by
                        have h := HX6.out.mono (d := 256 * k + 256) (by omega)
                        have e1 : K.putK yn ys = K := by unfold St.putK; rw [if_neg ho]
                        rw [e1] at h
                        exact h
                      have HSq : Hid ((K).sp = K.sp + 0 ∧ (K).bud = bud ∧ (K).sp ≤ 16 * (k + 1)) := ⟨rfl, HE.out.bud, by have h1 := HE.out.sp; omega⟩
                      have hsb : K.sp ≤ 16 * 80 := by have := HE.out.sp; omega
                      have hgb : 0 ≤ 16 * 81 := by have := HSq.out.1; have := HSq.out.2.2; omega
                      go_upto_region 38 with (fail)
                      have hE8 : (K.sp : Int) + ((0 : Nat) : Int) = (((K).sp : Nat) : Int) := by rw [HSq.out.1]; simp
                      try simp only [Int.add_zero, Int.natCast_zero, Int.ofNat_zero] at hE8
                      try rw [hE8]
                      clear hE8 hsb hgb
                      obtain ⟨K2, hK2⟩ : ∃ K2, K = K2 := ⟨_, rfl⟩
                      rw [hK2] at HF HSq ⊢
                      clear hK2
                      have hsp2 : K2.sp ≤ 100000 := by have := HSq.out.2.2; omega
                      obtain ⟨T2, hT2⟩ : ∃ T2, totL K2.f K2.near = T2 := ⟨_, rfl⟩
                      have hok2 := HF.out.pl.sa.ok
                      have hby : byt (heldO K2.f K2.near) K2.near = T2 := by rw [← hT2]; exact held_tot K2.f K2.near K2.near (fun _ h => h)
                      obtain ⟨Wd, hWd⟩ : ∃ Wd, (w6).drew = Wd := ⟨_, rfl⟩
                      have bd : Below (w6).heap.size (w6) Wd := by rw [← hWd]; exact Below.drew (Below.refl _ _)
                      have HFd : Hid (PlX w qs B bm ab y Wd (Xm) (b) (v) K2 (256 * k + 256) K2.f K2.near) := HF.out.new bd
                      have hUd := sused HFd.out.pl.sa
                      rw [hby] at hUd
                      have HUm : Hid (∀ V, Below Wd.heap.size Wd V → Calls Tryz.prog 14 #[.agg #[.map (some (b)), v]] V fun r w' => r = .returned (.int .i64 T2) ∧ Below V.heap.size V w') := fun V hV => by
                        have h2 := HFd.out.new hV
                        have := mused h2.pl.mp h2.pl.row.toS (by have := hok2.few; omega) (fun x hx => by have := hok2.sup x (hok2.sub x hx); exact i6_few this.1 this.2) (st_lenO hok2)
                        rw [hT2] at this
                        exact this
                      have htb : T2 ≤ 16 * 140737488351232 := by
                        rw [← hT2]
                        refine Nat.le_trans (totL_le K2.near (fun x _ => st_lenO hok2 x)) (Nat.mul_le_mul_right _ hok2.few)
                      obtain ⟨_, _, _, q0, q1, _, _⟩ := HFd.out.cells
                      have hS : Wd.cell? ⟨bm, 0, none⟩ = some (.map (some (b))) ∧ Wd.cell? ⟨bm, 1, none⟩ = some (v) := ⟨q0, q1⟩
                      clear q0 q1 bd hby hT2 hok2
                      refine wp_calmD ?_
                      refine wp_region_L [] (fun W : World => W.cell? ⟨bm, 0, none⟩ = some (.map (some (b))) ∧ W.cell? ⟨bm, 1, none⟩ = some (v)) (by kernel_rfl) ?_
                      rw [hWd]
                      clear hWd
                      refine wpAnyL_take (i := 0) 172 (v := .pointer (some ⟨qs, 0, none⟩)) rfl rfl (by kernel_rfl) (by kernel_rfl) (by kernel_rfl) (by kernel_rfl) (by kernel_rfl) (by kernel_rfl) (fun _ _ _ h => h) hS (by rfl) (by intro w' hSw; obtain ⟨y1, y2⟩ := hSw; go_simp <;> with_reducible rfl) ?_
                      simp only [Act.put, List.setIfInBounds_toArray, List.set_cons_zero, List.set_cons_succ]
                      refine wpAnyL_take (i := 2) 174 (v := .agg #[.map (some (b)), v]) rfl rfl (by kernel_rfl) (by kernel_rfl) (by kernel_rfl) (by kernel_rfl) (by kernel_rfl) (by kernel_rfl) (fun _ _ _ h => h) hS (by rfl) (by intro w' hSw; obtain ⟨y1, y2⟩ := hSw; go_simp <;> with_reducible rfl) ?_
                      simp only [Act.put, List.setIfInBounds_toArray, List.set_cons_zero, List.set_cons_succ]
                      refine wpAnyL_one (i := 1) (by kernel_rfl) rfl (fun Ka hKa => ?_)
                      go_simp
                      refine Calls.mono hUd ?_
                      rintro r w5 ⟨rfl, hw5⟩
                      rw [hw5]
                      refine hKa.out _ _ (fun _ => hS) ?_
                      clear hKa Ka hw5 hUd
                      try simp only [Act.put, List.setIfInBounds_toArray, List.set_cons_zero, List.set_cons_succ]
                      have hUm := HUm.out Wd (Below.refl _ _)
                      refine wpAnyL_one (i := 3) (by kernel_rfl) rfl (fun Ka hKa => ?_)
                      go_simp
                      refine Calls.mono hUm ?_
                      rintro r wt ⟨rfl, et⟩
                      have HFt : Hid (PlX w qs B bm ab y wt (Xm) (b) (v) K2 (256 * k + 256) K2.f K2.near) := HFd.out.new et
                      obtain ⟨_, _, _, q0, q1, _, _⟩ := HFt.out.cells
                      have hSt : wt.cell? ⟨bm, 0, none⟩ = some (.map (some (b))) ∧ wt.cell? ⟨bm, 1, none⟩ = some (v) := ⟨q0, q1⟩
                      refine hKa.out _ _ (fun _ => hSt) ?_
                      clear hKa Ka et hUm hS q0 q1
                      try simp only [Act.put, List.setIfInBounds_toArray, List.set_cons_zero, List.set_cons_succ]
                      refine wpAnyL_take (i := 4) 176 (v := .bool false) rfl rfl (by kernel_rfl) (by kernel_rfl) (by kernel_rfl) (by kernel_rfl) (by kernel_rfl) (by kernel_rfl) (fun _ _ _ h => h) hSt (by rfl) (by intro w' hSw; obtain ⟨y1, y2⟩ := hSw; go_simp <;> with_reducible rfl) ?_
                      simp only [Act.put, List.setIfInBounds_toArray, List.set_cons_zero, List.set_cons_succ]
                      refine wpAnyL_take (i := 5) 177 (v := .bool false) rfl rfl (by kernel_rfl) (by kernel_rfl) (by kernel_rfl) (by kernel_rfl) (by kernel_rfl) (by kernel_rfl) (fun _ _ _ h => h) hSt (by rfl) (by intro w' hSw; obtain ⟨y1, y2⟩ := hSw; go_simp <;> with_reducible rfl) ?_
                      simp only [Act.put, List.setIfInBounds_toArray, List.set_cons_zero, List.set_cons_succ]
                      refine wpAnyL_take (i := 6) 178 (v := .pointer (some ⟨qs, 0, none⟩)) rfl rfl (by kernel_rfl) (by kernel_rfl) (by kernel_rfl) (by kernel_rfl) (by kernel_rfl) (by kernel_rfl) (fun _ _ _ h => h) hSt (by rfl) (by intro w' hSw; obtain ⟨y1, y2⟩ := hSw; go_simp <;> with_reducible rfl) ?_
                      simp only [Act.put, List.setIfInBounds_toArray, List.set_cons_zero, List.set_cons_succ]
                      refine wpAnyL_take (i := 8) 180 (v := .int .i64 K2.sp) rfl rfl (by kernel_rfl) (by kernel_rfl) (by kernel_rfl) (by kernel_rfl) (by kernel_rfl) (by kernel_rfl) (fun _ _ _ h => h) hSt (by rfl) (by intro w' hSw; obtain ⟨y1, y2⟩ := hSw; go_simp <;> with_reducible rfl) ?_
                      simp only [Act.put, List.setIfInBounds_toArray, List.set_cons_zero, List.set_cons_succ]
                      have hSp := sspills HFt.out.pl.sa
                      refine wpAnyL_one (i := 7) (by kernel_rfl) rfl (fun Ka hKa => ?_)
                      go_simp
                      refine Calls.mono hSp ?_
                      rintro r w5 ⟨rfl, hw5⟩
                      rw [hw5]
                      refine hKa.out _ _ (fun _ => hSt) ?_
                      clear hKa Ka hw5 hSp
                      try simp only [Act.put, List.setIfInBounds_toArray, List.set_cons_zero, List.set_cons_succ]
                      refine wpAnyL_take (i := 9) 181 (v := .bool false) rfl rfl (by kernel_rfl) (by kernel_rfl) (by kernel_rfl) (by kernel_rfl) (by kernel_rfl) (by kernel_rfl) (fun _ _ _ h => h) hSt (by rfl) (by intro w' hSw; obtain ⟨y1, y2⟩ := hSw; go_simp <;> with_reducible rfl) ?_
                      simp only [Act.put, List.setIfInBounds_toArray, List.set_cons_zero, List.set_cons_succ]
                      refine wpAnyL_take (i := 10) 182 (v := .bool false) rfl rfl (by kernel_rfl) (by kernel_rfl) (by kernel_rfl) (by kernel_rfl) (by kernel_rfl) (by kernel_rfl) (fun _ _ _ h => h) hSt (by rfl) (by intro w' hSw; obtain ⟨y1, y2⟩ := hSw; go_simp <;> with_reducible rfl) ?_
                      simp only [Act.put, List.setIfInBounds_toArray, List.set_cons_zero, List.set_cons_succ]
                      refine wpAnyL_done (by kernel_rfl) ?_ _
                      have hNb : Calls Tryz.prog 16 #[.pointer (some ⟨qs, 0, none⟩), .agg #[.map (some (b)), v]] wt fun r w' => r = .returned (.bool true) ∧ Below wt.heap.size wt w' := lnumbers HFt.out.pl.sa HFt.out.pl.mp (by obtain ⟨a, c, e⟩ := HFt.out.pl.row.shape; exact ⟨a, _, c, e⟩)
                      obtain ⟨_, _, _, q0, q1, _, _⟩ := HFt.out.cells
                      clear hSt
                      go_wp2_with (go_at_call 16; refine Calls.mono hNb ?_; rintro r w8 ⟨rfl, e1⟩; have HB8 : Hid (Below wt.heap.size wt w8) := e1; clear e1 hNb)
                      go_roundw
                      case rel => exact ⟨k + 1, K2, hlt, h80, by go_num, by rfl, ⟨⟨_, _, _, (HFt.out.new HB8.out).pl⟩, HSq.out.2.1, HSq.out.2.2⟩⟩
                      case measure => simp [intOf]; omega
      · go_wp2
        go_ret
        obtain ⟨Xm, b, v, hP⟩ := HE.out.pl
        exact ⟨rfl, hP.bel⟩
    · go_wp2
      go_ret
      obtain ⟨Xm, b, v, hP⟩ := HE.out.pl
      exact ⟨rfl, hP.bel⟩
theorem plays_any {w : World} {ao : Option Addr} {cap : Nat} {Y : List Sct} {bud : Int} (hact : 0 < Y.length → ∃ b off, ao = some ⟨b, off, none⟩ ∧ SctS w b off Y) (hb : bud ≤ 9223372036854775807) :
    Calls Tryz.prog 3 #[.int .i64 bud, .slice ao Y.length cap] w fun e w' => e = .returned (.bool true) ∧ Below w.heap.size w w' := by
  by_cases h : bud < 0
  · exact plays_neg h
  · exact plays_pos hact (by omega) hb
end Go.Proofs.YtjemnkijoiehmaaGreatDoor
