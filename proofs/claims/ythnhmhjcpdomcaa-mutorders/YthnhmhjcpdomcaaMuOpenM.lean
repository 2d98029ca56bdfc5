import Derived.Test.YthnhmhjcpdomcaaRegIM
import Derived.Test.YthnhmhjcpdomcaaMuR20M
import Derived.Test.YthnhmhjcpdomcaaGrData
import Derived.Test.YthnhmhjcpdomcaaProg
import Derived.WalkKit
import Derived.ProofKit
import Derived.OpenShut
import Derived.Deep.Slices
import Derived.Deep.Strs
import Derived.Lib.SmallJoins
import Derived.SizedLaws
import Derived.Test.YthnhmhjcpdomcaaMuThat
section
/- MutOrders: the walk. -/
namespace Go.Proofs.Ythnhmhjcpdomcaa
open Go.RowKit Go.Sort
theorem grow_belowU (w : World) (n : Nat) (os : Array Obj) : Below w.heap.size w (Sort.grow (w.drewN n) os) := by
  have h1 : Below w.heap.size w (w.drewN n) := ⟨rfl, rfl, rfl, Nat.le_refl _, fun _ _ => rfl⟩
  refine h1.trans ⟨rfl, rfl, rfl, by simp [Sort.grow], fun k hk => ?_⟩
  simp [Sort.grow, Array.getElem?_append]
  omega
/-- The three graphs in their boxes. -/
structure Ends (w W : World) (ao : Option Addr) (n cap : Nat) (e5 e7 e9 : Nat) (so5 so7 so9 : Option Addr) (sc5 sc7 sc9 : Nat) (AG : List Vx) : Prop where
  ob : OB w W ao n cap
  b5 : W.heap[e5]? = some (.cells #[.slice so5 AG.length sc5] 24 (0, 0))
  b7 : W.heap[e7]? = some (.cells #[.slice so7 AG.length sc7] 24 (0, 0))
  b9 : W.heap[e9]? = some (.cells #[.slice so9 AG.length sc9] 24 (0, 0))
  v5 : VxAt W (fun _ => True) so5 AG
  v7 : VxAt W (fun _ => True) so7 AG
  v9 : VxAt W (fun _ => True) so9 AG
theorem Ends.new {w W W' : World} {ao : Option Addr} {n cap e5 e7 e9 : Nat} {so5 so7 so9 : Option Addr} {sc5 sc7 sc9 : Nat} {AG : List Vx} (h : Ends w W ao n cap e5 e7 e9 so5 so7 so9 sc5 sc7 sc9 AG) (hb : Below W.heap.size W W') : Ends w W' ao n cap e5 e7 e9 so5 so7 so9 sc5 sc7 sc9 AG :=
  ⟨h.ob.new hb, (hb.block _ (lt_of_block h.b5)).trans h.b5, (hb.block _ (lt_of_block h.b7)).trans h.b7, (hb.block _ (lt_of_block h.b9)).trans h.b9, h.v5.new hb, h.v7.new hb, h.v9.new hb⟩
/-- What the first loop holds. -/
structure O1 (w wr : World) (ao : Option Addr) (n cap : Nat) (v : Value) (T : List Mu) (j : Nat) : Prop where
  ob : OB w wr ao n cap
  row : UO wr (w.heap.size + 1) v (T.take j)
set_option maxRecDepth 100000 in
set_option maxHeartbeats 2000000 in
theorem mord_good {w : World} {P Q : Nat → Prop} {ao bo : Option Addr} (G : List Vx) (cap : Nat) (L : List Mu) (cap2 : Nat) (turn : Int) (h : VxAt w P ao G) (hok : ∀ v ∈ G, v.ok) (hL : UsAt w Q bo L) (hmo : ∀ m ∈ L, m.ok) (hz : chk G = 0) (hl : L.length ≤ 60) :
    Calls Try.prog 5 #[.agg #[.slice ao G.length cap], .slice bo L.length cap2, .int .i64 turn] w fun r w' => r = .returned (.bool true) ∧ Below w.heap.size w w' := by
  obtain ⟨i0, hi, hz0, hz1, hz2⟩ := info_parts infoMu
  have HG : Hid (∀ W, Below w.heap.size w W → VxAt W P ao G) := fun W hb => h.new hb
  have HL : Hid (∀ W, Below w.heap.size w W → UsAt W Q bo L) := fun W hb => hL.new hb
  have HOk : Hid (∀ v ∈ G, v.ok) := hok
  have HMo : Hid (∀ m ∈ L, m.ok) := hmo
  have HS0 : Hid _ := OB.start w ao G.length cap
  have HC : Hid _ := hz
  have HFi : Hid _ := fine_of hz
  have HUp : Hid _ := up_of hz hok
  have hGl : G.length ≤ 256 := (rise_of hz).1
  obtain ⟨n, hn⟩ : ∃ n, L.length = n := ⟨_, rfl⟩
  rw [hn] at hl ⊢
  have HN : Hid (L.length = n) := hn
  obtain ⟨r, hr⟩ : ∃ r : Nat, 0 < n → ∃ r0 : Int, r < n ∧ turn.tmod n = r0 ∧ -(n : Int) < r0 ∧ r0 < n ∧ (r0 + n).tmod n = (r : Int) ∧ (r0 + n) % (n : Int) = (r : Int) := by
    by_cases hn : 0 < n
    · obtain ⟨r0, r, h⟩ := turnU_idx turn n hn
      exact ⟨r, fun _ => ⟨r0, h⟩⟩
    · exact ⟨0, fun h => absurd h hn⟩
  have HTr : Hid _ := hr
  clear h hok hL hmo hz hn hr
  have hn60 : ¬ (60 : Int) < n := by omega
  go_enter Try.func5, Try.ntmps5
  go_wp2_with (first
    | (go_at_call 13; refine (ref_any G cap (HG.out _ HS0.out.low) HOk.out (by omega)).mono ?_; rintro r' w2 ⟨bo2, c2, rfl, hV2, hb2⟩; have hS2 := OB.new HS0.out hb2)
    | (go_at_call 14; refine (refcheck_any c2 hV2 (by omega) HOk.out).mono ?_; rintro r' w3 ⟨rfl, hb3⟩; rw [HC.out]; have hS3 := hS2.new hb3; have HS3 : Hid _ := hS3))
  clear hS2 hS3 hV2 hb2 hb3
  go_loopw [8, 9] (fun u i wr => ∃ (j : Nat) (o : Option Addr) (m c : Nat), j ≤ n ∧ u = .slice o m c ∧ i = .int .i64 j ∧ O1 w wr ao G.length cap (.slice o m c) (L.drop r ++ L.take r) j ∧ Hid (∀ q (hq : q < L.length), q < j → 1 ≤ L[q].k ∧ L[q].k ≤ 4)) (fun _ i _ => n - (intOf i).toNat)
  case atStart =>
    exact ⟨0, _, _, _, Nat.zero_le _, rfl, rfl, ⟨HS3.out.new (one_new _ _), own_emptyU HS3.out.lt⟩, fun q _ hq => absurd hq (by omega)⟩
  case round =>
    obtain ⟨j, o, m, c, hj, rfl, rfl, ⟨hO, hR⟩, hK⟩ := hrel
    clear HS3
    by_cases hlt : j < n
    · obtain ⟨r0, hrn, t1, t2, t3, t4, t5⟩ := HTr.out (by omega)
      have hLn := HN.out
      obtain ⟨b, off, rfl, hP, hc⟩ := HL.out _ hO.low (by omega)
      obtain ⟨ix, hix⟩ : ∃ ix, (j + r) % n = ix := ⟨_, rfl⟩
      have hixl : ix < n := by rw [← hix]; exact Nat.mod_lt _ (by omega)
      have t6 : ((j : Int) + (r : Int)) % (n : Int) = (ix : Int) := by rw [← hix]; simp
      have t7 : ((j : Int) + (r : Int)).tmod (n : Int) = (ix : Int) := by rw [Int.tmod_eq_emod_of_nonneg (by omega)]; exact t6
      have hjL : j < L.length := by omega
      have hixL : ix < L.length := by omega
      obtain ⟨c0, c1, c2, c3⟩ := hc ix hixL
      have ck := (hc j hjL).1
      have HT : Hid ((L.drop r ++ L.take r).take (j + 1) = (L.drop r ++ L.take r).take j ++ [L[ix]]) := by
        show _ = _
        rw [turnU_take L r j (by omega) (by omega)]
        simp only [HN.out, hix]
      have HLg : Hid (((L.drop r ++ L.take r).take j).length = j) := by show _ = _; rw [List.length_take]; simp; omega
      have HKj : Hid (∀ q (hq : q < L.length), q = j → L[q].k = L[j].k) := fun q hq e => by subst e; rfl
      generalize L[ix] = y at c0 c1 c2 c3 HT
      generalize L[j].k = kj at ck HKj
      have HO : Hid _ := hO
      have HR : Hid _ := hR
      generalize (L.drop r ++ L.take r).take j = D at HR HT HLg
      clear hO hR hc hix hLn
      by_cases hk1 : kj < 1
      · go_wp2_with (go_at_call 15; refine (awake6 _).mono ?_; rintro r' w4 ⟨rfl, hb4⟩; have hS4 := HO.out.new hb4)
        go_ret
        exact ⟨rfl, hS4.low⟩
      · by_cases hk4 : 4 < kj
        · go_wp2_with (go_at_call 15; refine (awake6 _).mono ?_; rintro r' w4 ⟨rfl, hb4⟩; have hS4 := HO.out.new hb4)
          go_ret
          exact ⟨rfl, hS4.low⟩
        · go_wp2_with (at_builtin; refine wpList_append_own_at _ rfl _ _ 35 rfl (w.heap.size + 1) 38 i0 (.agg #[.int .i64 0, .int .i64 0, .int .i64 0, .int .i64 0]) 4 32 Try.underlying35 hi hz0 hz1 hz2 rfl (by decide) _ _ _ rfl (own_new' HR.out (one_newU wr (.cells #[.int .i64 y.k, .int .i64 y.i, .int .i64 y.t, .int .i64 y.v] 38))) ⟨wr.heap.size, 0, none⟩ 1 1 (muCells y) rfl rfl (u_four (heap_alloc_new _ _)) (muOne y) (by rw [HLg.out]; unfold maxLen; omega) (by rw [HLg.out]; omega) (by have := HO.out.lt; simp; omega) ?_)
          intro v' w4 hown hgrow _ hat
          have hR4 : UO w4 (w.heap.size + 1) v' ((L.drop r ++ L.take r).take (j + 1)) := by
            unfold UO
            rw [HT.out, mu_snoc, List.length_append]
            exact hown
          have hO4 : OB w w4 ao G.length cap := (HO.out.new (one_new _ _)).fr (Fr.grown hgrow (S := fun k => (Value.slice o m c).ownBlock = some k) (fun k hk => hk)) (fun k hk => (World.ownsRow.lt HR.out k hk).1)
          obtain ⟨o', m', c', rfl⟩ := own_anyU hown
          have HR4 : Hid _ := hR4
          have HO4 : Hid _ := hO4
          clear hown hgrow hat hR4 hO4
          go_wp2
          go_roundw
          case rel => exact ⟨j + 1, _, _, _, by omega, rfl, by go_num, ⟨HO4.out, HR4.out⟩, fun q hq hqj => by
            by_cases e : q = j
            · rw [HKj.out q hq e]; omega
            · exact hK.out q hq (by omega)⟩
          case measure => simp [intOf]; omega
    · obtain rfl : j = n := by omega
      have hTl : (L.drop r ++ L.take r).length = j := by rw [(turnU_perm L r).length_eq]; exact HN.out
      rw [List.take_of_length_le (by omega)] at hR
      have HTp : Hid ((L.drop r ++ L.take r).Perm L) := turnU_perm L r
      have HTl : Hid _ := hTl
      have HKa : Hid (∀ m ∈ L, 1 ≤ m.k ∧ m.k ≤ 4) := fun x hx => by
        obtain ⟨q, hq, rfl⟩ := List.getElem_of_mem hx
        exact hK.out q hq (by have := HN.out; omega)
      generalize L.drop r ++ L.take r = T at hR HTp HTl
      have HO : Hid _ := hO
      have HR : Hid _ := hR
      clear hO hR hK hTl HTr
      go_wp2
      go_loopw [10] (fun i wx => ∃ q : Nat, 1 ≤ q ∧ (q ≤ j ∨ q = 1) ∧ i = .int .i64 q ∧ OB w wx ao G.length cap ∧ UO wx (w.heap.size + 1) (.slice o m c) T) (fun i _ => j - (intOf i).toNat)
      case atStart => exact ⟨1, Nat.le_refl _, Or.inr rfl, rfl, HO.out, HR.out⟩
      case round =>
        obtain ⟨q, hq1, hq2, rfl, hO2, hR2⟩ := hrel
        clear HO HR
        by_cases hlt2 : q < j
        · have hLn := HN.out
          have HO2 : Hid _ := hO2
          have HR2 : Hid _ := hR2
          clear hO2 hR2
          go_upto_region 14 with (fail)
          refine mord_r14 (P := Q) (bo := bo) (cap2 := cap2) (L := L) (q := q) rfl (by rw [hLn]; rfl) rfl hq1 (by omega) (by omega) (fun W hb => HL.out W (HO2.out.low.trans (hb.mono HO2.out.low.size))) ?_
          intro X W e1 e2 h11 h12 hb1 hb2 hl1 hl2 hlow
          simp only [puts]
          rw [h11, h12]
          generalize X 75 = x75
          generalize X 76 = x76
          generalize X 77 = x77
          generalize X 78 = x78
          generalize X 79 = x79
          generalize X 80 = x80
          generalize X 81 = x81
          generalize X 82 = x82
          generalize X 83 = x83
          generalize X 84 = x84
          generalize X 85 = x85
          clear h11 h12
          have hOW : OB w W ao G.length cap := HO2.out.new hlow
          have hRW : UO W (w.heap.size + 1) (.slice o m c) T := UO.new HR2.out hlow
          clear HO2 HR2
          simp only [Act.put, List.setIfInBounds_toArray, List.set_cons_succ, List.set_cons_zero]
          obtain ⟨q', hq'⟩ : ∃ q', q = q' + 1 := ⟨q - 1, by omega⟩
          have hsub : (q : Int) - 1 = (q' : Int) := by omega
          have hwr : IntKind.i64.wrap (q' : Int) = (q' : Int) := IntWalk.i64_in _ (by omega)
          have hqL : q < L.length := by omega
          have hqL' : q' < L.length := by omega
          have hqj : q' < j := by omega
          obtain ⟨b, off, rfl, hP, hc⟩ := HL.out W hOW.low (by omega)
          have x0 := And.intro (hc q hqL) (hc q' hqL')
          have hq0 : q - 1 = q' := by omega
          simp only [hq0] at hb1
          generalize L[q] = y at hb2 x0
          generalize L[q'] = x at hb1 x0
          have HBx : Hid (q = q' + 1) := hq'
          have HOW : Hid _ := hOW
          have HRW : Hid _ := hRW
          have HB1 : Hid _ := hb1
          have HB2 : Hid _ := hb2
          clear hc hP hq' hq0 hqL hqL' hOW hRW hlow hb1 hb2 hl1 hl2
          go_upto_region 15 with (fail)
          unfold UC at x0
          go_region_held (fun w' => (w'.cell? ⟨b, off + q * 4, none⟩ = some (.int .i64 y.k) ∧ w'.cell? ⟨b, off + q * 4 + 1, none⟩ = some (.int .i64 y.i) ∧ w'.cell? ⟨b, off + q * 4 + 2, none⟩ = some (.int .i64 y.t) ∧ w'.cell? ⟨b, off + q * 4 + 3, none⟩ = some (.int .i64 y.v)) ∧ (w'.cell? ⟨b, off + q' * 4, none⟩ = some (.int .i64 x.k) ∧ w'.cell? ⟨b, off + q' * 4 + 1, none⟩ = some (.int .i64 x.i) ∧ w'.cell? ⟨b, off + q' * 4 + 2, none⟩ = some (.int .i64 x.t) ∧ w'.cell? ⟨b, off + q' * 4 + 3, none⟩ = some (.int .i64 x.v)))
            (first | exact x0 | exact x1)
            (first | (go_at_call 19; refine (compare_mu x y _).mono ?_; rintro e w1 ⟨rfl, nq, os, rfl⟩; have hb1 := grow_belowU W.drew nq os; have x1 := And.intro (UC.new (w := W.drew) x0.1 hb1) (UC.new (w := W.drew) x0.2 hb1); unfold UC at x1))
          have hbW := grow_belowU W (1 + nq) os
          generalize Sort.grow (W.drewN (1 + nq)) os = W2 at hbW
          have hOB : OB w W2 ao G.length cap := HOW.out.new hbW
          have hUO : UO W2 (w.heap.size + 1) (.slice o m c) T := UO.new HRW.out hbW
          have hE1 := (hbW.block _ (lt_of_block HB1.out)).trans HB1.out
          have hE2 := (hbW.block _ (lt_of_block HB2.out)).trans HB2.out
          obtain ⟨a0, a1, a2, a3⟩ := cellU4 hE1
          obtain ⟨b0, b1, b2, b3⟩ := cellU4 hE2
          have HE1 : Hid _ := hE1
          have HE2 : Hid _ := hE2
          have HO2 : Hid _ := hOB
          have HU2 : Hid _ := hUO
          have hxy := fun W => beforeU_any x y W
          have hyx := fun W => beforeU_any y x W
          rw [← cmpU_lt] at hxy
          rw [← cmpU_gt] at hyx
          generalize cmpU x y = cc at hxy hyx
          clear x0 x1 hb1 hbW hOB hUO hE1 hE2 HOW HRW HB1 HB2
          go_wp2_with (first
            | (go_at_call 20; have hEE := HE1.out; clear hEE; refine (hxy _).mono ?_; rintro r' W3 ⟨rfl, hb3⟩; have hE31 := (hb3.block _ (lt_of_block HE1.out)).trans HE1.out; have hE32 := (hb3.block _ (lt_of_block HE2.out)).trans HE2.out; obtain ⟨a0, a1, a2, a3⟩ := cellU4 hE31; obtain ⟨b0, b1, b2, b3⟩ := cellU4 hE32; have HO3 : Hid _ := HO2.out.new hb3; have HU3 : Hid _ := UO.new HU2.out hb3; clear hb3 hE31 hE32 HE1 HE2 HO2 HU2)
            | (go_at_call 20; refine (hyx _).mono ?_; rintro r' W4 ⟨rfl, hb4⟩; have HO4 : Hid _ := HO3.out.new hb4; have HU4 : Hid _ := UO.new HU3.out hb4))
          go_roundw
          case rel => exact ⟨q + 1, by omega, by omega, by go_num, HO4.out, HU4.out⟩
          case measure => simp [intOf]; omega
        · have hjL : j = L.length := HN.out.symm
          obtain ⟨hUT, hmT⟩ := UO.at_ hR2
          obtain ⟨AG, an, hA⟩ : ∃ AG an, appG G L = (AG, an) := ⟨_, _, rfl⟩
          have HA2 : Hid (appG G T = (AG, an)) := (appG_perm G HTp.out).trans hA
          have HA3 : Hid (appG G (L ++ T) = (AG, an)) := (appG_twice G HTp.out).trans hA
          have HkT : Hid (∀ x ∈ T, 1 ≤ x.k ∧ x.k ≤ 4) := fun x hx => HKa.out x (HTp.out.mem_iff.1 hx)
          have HkA : Hid (∀ x ∈ L ++ T, 1 ≤ x.k ∧ x.k ≤ 4) := fun x hx => (List.mem_append.1 hx).elim (HKa.out x) (HkT.out x)
          have HA1 : Hid _ := hA
          have HJL : Hid _ := hjL
          have HMT : Hid _ := hmT
          have HUT : Hid _ := hUT
          have HO2 : Hid _ := hO2
          have hcl := hO2.cell
          clear hO2 hR2 hA hjL hmT hUT
          go_upto_region 19 with (go_at_call 16; refine (apply_nv G cap L cap2 rfl HJL.out (HG.out _ HO2.out.low) HOk.out HFi.out HUp.out (by omega) (HL.out _ HO2.out.low) HKa.out HA1.out).mono ?_; rintro r' w5 ⟨so5, sc5, rfl, hV5, hb5⟩; have HV5 : Hid _ := hV5; have HB5 : Hid _ := hb5; clear hV5 hb5)
          obtain ⟨W6, hW6⟩ : ∃ W6, w5.alloc (.cells #[.slice so5 AG.length sc5] 24) = W6 := ⟨_, rfl⟩
          have hb6 : Below w5.heap.size w5 W6 := by rw [← hW6]; exact one_new _ _
          have hbx6 : W6.heap[w5.heap.size]? = some (.cells #[.slice so5 AG.length sc5] 24 (0, 0)) := by rw [← hW6]; exact heap_alloc_new _ _
          have hO6 : OB w W6 ao G.length cap := (HO2.out.new HB5.out).new hb6
          have HV6 : Hid (VxAt W6 _ so5 AG) := VxAt.new HV5.out hb6
          have HU6 : Hid (UsAt W6 _ o T) := UsAt.new (UsAt.new HUT.out HB5.out) hb6
          have HBX6 : Hid _ := hbx6
          have HO6 : Hid _ := hO6
          have hcl6 := hO6.cell
          have hl6 : w5.heap.size < W6.heap.size := lt_of_block hbx6
          simp only [hW6]
          clear hW6 hb6 hbx6 hO6 hcl HO2 HB5 HV5 HUT
          go_upto_region 20 with (go_at_call 16; refine (apply_nv G cap T c rfl HMT.out (HG.out _ HO6.out.low) HOk.out HFi.out HUp.out (by have := HMT.out; have := HTl.out; omega) HU6.out HkT.out HA2.out).mono ?_; rintro r' w7 ⟨so7, sc7, rfl, hV7, hb7⟩; have HV7 : Hid _ := hV7; have HB7 : Hid _ := hb7; clear hV7 hb7)
          obtain ⟨W8, hW8⟩ : ∃ W8, w7.alloc (.cells #[.slice so7 AG.length sc7] 24) = W8 := ⟨_, rfl⟩
          have hb8 : Below w7.heap.size w7 W8 := by rw [← hW8]; exact one_new _ _
          have hbx8 : W8.heap[w7.heap.size]? = some (.cells #[.slice so7 AG.length sc7] 24 (0, 0)) := by rw [← hW8]; exact heap_alloc_new _ _
          have hb68 : Below W6.heap.size W6 W8 := HB7.out.trans (hb8.mono HB7.out.size)
          have hO8 : OB w W8 ao G.length cap := HO6.out.new hb68
          have HVa : Hid (VxAt W8 _ so5 AG) := VxAt.new HV6.out hb68
          have HVb : Hid (VxAt W8 _ so7 AG) := VxAt.new HV7.out hb8
          have HU8 : Hid (UsAt W8 _ o T) := UsAt.new HU6.out hb68
          have HBa : Hid _ := (hb68.block _ (lt_of_block HBX6.out)).trans HBX6.out
          have HBb : Hid _ := hbx8
          have HO8 : Hid _ := hO8
          simp only [hW8]
          clear hW8 hb8 hbx8 hb68 hO8 hcl6 hl6 HO6 HB7 HV7 HU6 HV6 HBX6
          refine mord_r20 (P := P) (Q := Q) (ao := ao) (bo := bo) (o := o) (gn := G.length) (cap := cap) (n := j) (cap2 := cap2) (m := m) (c := c) (b0 := w.heap.size) (G := G) (L := L) (T := T) (AG := AG) (an := an) rfl rfl rfl rfl HO8.out.box HJL.out HMT.out rfl (by have := HN.out; have := HTl.out; omega) (fun W hb => HG.out W (HO8.out.low.trans (hb.mono HO8.out.low.size))) (fun W hb => HL.out W (HO8.out.low.trans (hb.mono HO8.out.low.size))) (fun W hb => UsAt.new HU8.out hb) HOk.out HFi.out HUp.out (by omega) HkA.out HA3.out ?_
          intro X W e9 so9 sc9 h18 h19 hbx9 hl9 hV9 hlow
          simp only [puts]
          rw [h18, h19]
          generalize X 122 = x122
          generalize X 123 = x123
          generalize X 124 = x124
          generalize X 125 = x125
          generalize X 126 = x126
          generalize X 127 = x127
          generalize X 128 = x128
          generalize X 129 = x129
          generalize X 130 = x130
          generalize X 131 = x131
          clear h18 h19
          simp only [Act.put, List.setIfInBounds_toArray, List.set_cons_succ, List.set_cons_zero]
          have HE : Hid (Ends w W ao G.length cap w5.heap.size w7.heap.size e9 so5 so7 so9 sc5 sc7 sc9 AG) := ⟨HO8.out.new hlow, (hlow.block _ (lt_of_block HBa.out)).trans HBa.out, (hlow.block _ (lt_of_block HBb.out)).trans HBb.out, hbx9, (VxAt.new HVa.out hlow).mono (fun _ _ _ => trivial), (VxAt.new HVb.out hlow).mono (fun _ _ _ => trivial), hV9⟩
          have HAu := appG_up HFi.out HUp.out L
          rw [HA1.out] at HAu
          have HLa : Hid (AG.length ≤ 9223372036854775807) := by show _ ≤ _; have := HAu.1; have := HN.out; simp only at *; omega
          have HEa : Hid (∀ v ∈ AG, v.es.length ≤ 9223372036854775807) := fun v hv => by have := HAu.2 v hv; have := HN.out; omega
          clear HAu hbx9 hl9 hV9 hlow HO8 HBa HBb HVa HVb HU8
          go_wp2_with (first
            | (go_at_call 15; refine (awake6 _).mono ?_; rintro r' W10 ⟨rfl, hb10⟩; have hE10 := Ends.new HE.out hb10; have z1 := cellG1 hE10.b5; have z2 := cellG1 hE10.b7; have HE10 : Hid _ := hE10; clear hE10 hb10 HE)
            | (go_at_call 21; have hh := HE10.out; clear hh; refine (same_nv (L := AG) sc5 sc7 HE10.out.v5 HE10.out.v7 HLa.out HEa.out).mono ?_; rintro r' W11 ⟨rfl, hb11⟩; have hE11 := Ends.new HE10.out hb11; have z3 := cellG1 hE11.b5; have z4 := cellG1 hE11.b9; have HE11 : Hid _ := hE11; clear hE11 hb11 HE10)
            | (go_at_call 21; refine (same_nv (L := AG) sc5 sc9 HE11.out.v5 HE11.out.v9 HLa.out HEa.out).mono ?_; rintro r' W12 ⟨rfl, hb12⟩; have hE12 := Ends.new HE11.out hb12))
          go_ret
          exact ⟨by simp, hE12.ob.low⟩
end Go.Proofs.Ythnhmhjcpdomcaa
end

section
/- How edges, vertices and graphs that came in are opened. -/
namespace Go.Proofs.Ythnhmhjcpdomcaa
open Go.RowKit Go.Deep Go.Joins Go.ChangeShapes
theorem cellsL : Try.prog.cellsOf 2 = 1 := by kernel_rfl
theorem cellsEs : Try.prog.cellsOf 82 = 1 := by kernel_rfl
theorem cellsVs : Try.prog.cellsOf 22 = 1 := by kernel_rfl
theorem cellsEd : Try.prog.cellsOf 81 = 2 := by kernel_rfl
theorem cellsVx : Try.prog.cellsOf 84 = 3 := by kernel_rfl
theorem cellsGr : Try.prog.cellsOf 24 = 1 := by kernel_rfl
theorem two_of {α : Type} {l : List α} (h : l.length = 2) : ∃ a b, l = [a, b] := by
  match l, h with
  | [a, b], _ => exact ⟨a, b, rfl⟩
theorem three_of {α : Type} {l : List α} (h : l.length = 3) : ∃ a b c, l = [a, b, c] := by
  match l, h with
  | [a, b, c], _ => exact ⟨a, b, c, rfl⟩
theorem add_none {b off : Nat} (j i : Nat) : (((⟨b, off, none⟩ : Addr).add j).add i) = ⟨b, off + j + i, none⟩ := by
  rw [add_add]
  unfold Addr.add
  split <;> simp_all <;> omega
section
variable {H : Type} {enc : TypeId × Value → H} {w : World} {base : Nat} {spare : Nat → Bool} {held : Bool}
def Ed.data (e : Ed) : DataW H := .agg [.lit (.int .i64 e.t), .lit (.int .i64 e.w)]
theorem i64_of {a : Int} (h : (Lit.int .i64 a).wf = true) : I64 a := by have := bounds_i64 h; unfold I64; omega
theorem open_ed {n : Nat} {cs : List Value} {x : DataW H × List MemPlace} (h : DataW.trod enc Try.prog w base spare held n 81 cs = some x) :
    ∃ y : Ed, cs = [.int .i64 y.t, .int .i64 y.w] ∧ x.1 = y.data ∧ y.ok := by
  obtain ⟨y0, y1, m, rfl, hl, h0, h1⟩ := trod_struct2 Try.underlying81 h
  rw [cellsEd] at hl
  obtain ⟨v0, v1, rfl⟩ := two_of hl
  simp only [cellsL] at h0 h1
  obtain ⟨a, e0, rfl, wa⟩ := DataW.trod_int Try.underlying2 h0
  obtain ⟨b, e1, rfl, wb⟩ := DataW.trod_int Try.underlying2 h1
  simp at e0 e1
  subst e0 e1
  exact ⟨⟨a, b⟩, rfl, rfl, ⟨i64_of wa, i64_of wb⟩⟩
theorem open_eds {n : Nat} {cs : List Value} {x : DataW H × List MemPlace} (h : DataW.trod enc Try.prog w base spare held n 82 cs = some x) :
    ∃ (ao : Option Addr) (cap : Nat) (L : List Ed), cs = [.slice ao L.length cap] ∧ (∀ y ∈ L, y.ok) ∧ L.length ≤ maxLen ∧ EdAt w (fun k => k < w.heap.size) ao L ∧ ((x.1 = .nil ∧ L = []) ∨ ∃ sp, x.1 = .slice (L.map Ed.data) sp) := by
  rcases open_slice Try.underlying82 h with ⟨h0, h1⟩ | ⟨a, len, cap, m, k, D, Pl, rfl, hb, hl, hm, hmm, rfl, hx⟩
  · exact ⟨none, 0, [], h0, fun y hy => (by cases hy), by simp, fun h => absurd h (by simp), Or.inl ⟨by rw [h1], rfl⟩⟩
  · have hlm : len ≤ m := by rw [hmm]; split <;> omega
    have each : ∀ i, i < len → ∃ y : Ed, w.cells? base (a.add (i * 2)) 2 = some [.int .i64 y.t, .int .i64 y.w] ∧ D i = y.data ∧ y.ok := by
      intro i hi
      obtain ⟨cs', h1, h2⟩ := hx i (by omega)
      rw [cellsEd] at h1
      obtain ⟨y, rfl, h3, h4⟩ := open_ed h2
      exact ⟨y, h1, h3, h4⟩
    haveI : Inhabited Ed := ⟨⟨0, 0⟩⟩
    obtain ⟨q, hq⟩ := choose_lt each
    have hlen : ((List.range len).map q).length = len := by simp
    refine ⟨some a, cap, (List.range len).map q, by rw [hlen], ?_, by rw [hlen]; omega, ?_, Or.inr ⟨(List.range (m - len)).map fun j => D (len + j), ?_⟩⟩
    · intro y hy
      obtain ⟨i, hi, rfl⟩ := List.mem_map.1 hy
      exact (hq i (List.mem_range.1 hi)).2.2
    · intro hpos
      rw [hlen] at hpos
      obtain ⟨_, _, hc0⟩ := World.cells?_some (hq 0 hpos).1
      have hs0 := World.cell?_spot (hc0 0 (by simp))
      have hspot : a.spot = none := by simpa [Addr.add] using hs0
      obtain ⟨b, off, spot⟩ := a
      simp only at hspot
      subst hspot
      have hcell : ∀ j (_ : j < len), w.cell? ⟨b, off + j * 2, none⟩ = some (.int .i64 (q j).t) ∧ w.cell? ⟨b, off + j * 2 + 1, none⟩ = some (.int .i64 (q j).w) := by
        intro j hj
        obtain ⟨_, _, hc⟩ := World.cells?_some (hq j hj).1
        have e0 := hc 0 (by simp)
        have e1 := hc 1 (by simp)
        rw [add_none] at e0 e1
        simp at e0 e1
        exact ⟨e0, e1⟩
      refine ⟨b, off, rfl, lt_cell (hcell 0 hpos).1, ?_⟩
      intro j hj
      have hj' : j < len := by simpa using hj
      simp only [List.getElem_map, List.getElem_range]
      exact hcell j hj'
    · show DataW.slice _ _ = _
      rw [List.map_map]
      congr 1
      exact List.map_congr_left (fun i hi => (hq i (List.mem_range.1 hi)).2.1)
/-- A vertex's three cells, opened. -/
theorem open_vx {n : Nat} {cs : List Value} {x : DataW H × List MemPlace} (h : DataW.trod enc Try.prog w base spare held n 84 cs = some x) :
    ∃ (y : Vx) (eo : Option Addr) (ec : Nat) (dx : DataW H), cs = [.int .i64 y.id, .int .i64 y.val, .slice eo y.es.length ec] ∧ I64 y.id ∧ I64 y.val ∧ (∀ e ∈ y.es, e.ok) ∧ y.es.length ≤ maxLen ∧ EdAt w (fun k => k < w.heap.size) eo y.es ∧ x.1 = .agg [.lit (.int .i64 y.id), .lit (.int .i64 y.val), dx] ∧ ((dx = .nil ∧ y.es = []) ∨ ∃ sp, dx = .slice (y.es.map Ed.data) sp) := by
  obtain ⟨y0, y1, y2, m, rfl, hl, h0, h1, h2⟩ := trod_struct3 Try.underlying84 h
  rw [cellsVx] at hl
  obtain ⟨v0, v1, v2, rfl⟩ := three_of hl
  simp only [cellsL, cellsEs] at h0 h1 h2
  obtain ⟨a, e0, rfl, wa⟩ := DataW.trod_int Try.underlying2 h0
  obtain ⟨b, e1, rfl, wb⟩ := DataW.trod_int Try.underlying2 h1
  obtain ⟨ao, cap, L, hcs, hok, hm, hE, hd⟩ := open_eds h2
  simp at e0 e1 hcs
  subst e0 e1 hcs
  exact ⟨⟨a, b, L⟩, ao, cap, y2.1, rfl, i64_of wa, i64_of wb, hok, hm, hE, rfl, hd⟩
end
end Go.Proofs.Ythnhmhjcpdomcaa
end

section
/- How a graph that came in is opened, with its bounds. -/
namespace Go.Proofs.Ythnhmhjcpdomcaa
open Go.RowKit Go.Deep Go.Joins Go.ChangeShapes
theorem bytesEd : Try.prog.bytesOf 81 = 16 := by kernel_rfl
theorem bytesVx : Try.prog.bytesOf 84 = 40 := by kernel_rfl
theorem mem_weightsAll {H : Type} {P : Program} {e : TypeId} : ∀ {ds : List (DataW H)} {d : DataW H} {n : Nat}, d ∈ ds → n ∈ d.weights P e → n ∈ DataW.weightsAll P e ds
  | [], _, _, h, _ => by cases h
  | d0 :: ds, d, n, h, hn => by
    simp only [DataW.weightsAll, List.mem_append]
    rcases List.mem_cons.1 h with rfl | h
    · exact Or.inl hn
    · exact Or.inr (mem_weightsAll h hn)
section
variable {H : Type} {enc : TypeId × Value → H} {w : World} {base : Nat} {spare : Nat → Bool} {held : Bool}
theorem vx_weight {y : Vx} {dx : DataW H} (hd : (dx = .nil ∧ y.es = []) ∨ ∃ sp, dx = .slice (y.es.map Ed.data) sp) (hw : ∀ m ∈ (DataW.agg [.lit (.int .i64 y.id), .lit (.int .i64 y.val), dx] : DataW H).weights Try.prog 84, m ≤ reachBytes) : y.es.length ≤ 8796093022208 := by
  rcases hd with ⟨_, h⟩ | ⟨sp, rfl⟩
  · rw [h]; simp
  · have := hw ((y.es.length + sp.length) * 16) (by
      have hu := Try.underlying84
      have hv := Try.underlying82
      simp [DataW.weights, DataW.weightsEach, hu, hv, bytesEd])
    unfold reachBytes at this
    omega
theorem open_vs {n : Nat} {cs : List Value} {x : DataW H × List MemPlace} (h : DataW.trod enc Try.prog w base spare held n 22 cs = some x) (hw : ∀ m ∈ x.1.weights Try.prog 22, m ≤ reachBytes) :
    ∃ (ao : Option Addr) (cap : Nat) (G : List Vx), cs = [.slice ao G.length cap] ∧ (∀ y ∈ G, y.ok) ∧ G.length * 40 ≤ 140737488355328 ∧ VxAt w (fun k => k < w.heap.size) ao G := by
  rcases open_slice Try.underlying22 h with ⟨h0, h1⟩ | ⟨a, len, cap, m, k, D, Pl, rfl, hb, hl, hm, hmm, rfl, hx⟩
  · exact ⟨none, 0, [], h0, fun y hy => (by cases hy), by simp, fun h => absurd h (by simp)⟩
  · have hlm : len ≤ m := by rw [hmm]; split <;> omega
    have hv := Try.underlying22
    have hlen40 : len * 40 ≤ 140737488355328 := by
      have := hw ((((List.range len).map D).length + ((List.range (m - len)).map fun j => D (len + j)).length) * 40) (by simp [DataW.weights, hv, bytesVx])
      unfold reachBytes at this
      simp only [List.length_map, List.length_range] at this
      omega
    have each : ∀ i, i < len → ∃ y : Vx, (∃ eo ec, w.cells? base (a.add (i * 3)) 3 = some [.int .i64 y.id, .int .i64 y.val, .slice eo y.es.length ec] ∧ EdAt w (fun k => k < w.heap.size) eo y.es) ∧ y.ok := by
      intro i hi
      obtain ⟨cs', h1, h2⟩ := hx i (by omega)
      rw [cellsVx] at h1
      obtain ⟨y, eo, ec, dx, rfl, hid, hvl, hes, _, hE, hD, hd⟩ := open_vx h2
      refine ⟨y, ⟨eo, ec, h1, hE⟩, hid, hvl, hes, vx_weight hd (fun m hm => hw m ?_)⟩
      simp only [DataW.weights, hv]
      refine List.mem_cons_of_mem _ (List.mem_append_left _ (mem_weightsAll (d := D i) (List.mem_map.2 ⟨i, List.mem_range.2 hi, rfl⟩) ?_))
      have hD' : D i = _ := hD
      rw [hD']
      exact hm
    haveI : Inhabited Vx := ⟨⟨0, 0, []⟩⟩
    obtain ⟨q, hq⟩ := choose_lt each
    have hlen : ((List.range len).map q).length = len := by simp
    refine ⟨some a, cap, (List.range len).map q, by rw [hlen], ?_, by rw [hlen]; exact hlen40, ?_⟩
    · intro y hy
      obtain ⟨i, hi, rfl⟩ := List.mem_map.1 hy
      exact (hq i (List.mem_range.1 hi)).2
    · intro hpos
      rw [hlen] at hpos
      obtain ⟨eo0, ec0, hq0, _⟩ := (hq 0 hpos).1
      obtain ⟨_, _, hc0⟩ := World.cells?_some hq0
      have hs0 := World.cell?_spot (hc0 0 (by simp))
      have hspot : a.spot = none := by simpa [Addr.add] using hs0
      obtain ⟨b, off, spot⟩ := a
      simp only at hspot
      subst hspot
      have hcell : ∀ j (_ : j < len), VxCell w (fun k => k < w.heap.size) b (off + j * 3) (q j) := by
        intro j hj
        obtain ⟨eo, ec, hqj, hE⟩ := (hq j hj).1
        obtain ⟨_, _, hc⟩ := World.cells?_some hqj
        have e0 := hc 0 (by simp)
        have e1 := hc 1 (by simp)
        have e2 := hc 2 (by simp)
        rw [add_none] at e0 e1 e2
        simp at e0 e1 e2
        exact ⟨eo, ec, e0, e1, e2, hE⟩
      refine ⟨b, off, rfl, ?_, ?_⟩
      · obtain ⟨_, _, e0, _⟩ := hcell 0 hpos
        exact lt_cell e0
      · intro j hj
        have hj' : j < len := by simpa using hj
        simp only [List.getElem_map, List.getElem_range]
        exact hcell j hj'
theorem open_gr {n : Nat} {cs : List Value} {x : DataW H × List MemPlace} (h : DataW.trod enc Try.prog w base spare held n 24 cs = some x) (hw : ∀ m ∈ x.1.weights Try.prog 24, m ≤ reachBytes) :
    ∃ (ao : Option Addr) (cap : Nat) (G : List Vx), cs = [.slice ao G.length cap] ∧ (∀ y ∈ G, y.ok) ∧ G.length * 40 ≤ 140737488355328 ∧ VxAt w (fun k => k < w.heap.size) ao G := by
  obtain ⟨y0, m, rfl, hl, h0⟩ := trod_struct1 Try.underlying24 h
  rw [cellsGr] at hl
  obtain ⟨v0, rfl⟩ : ∃ v, cs = [v] := List.length_eq_one_iff.1 hl
  simp only [cellsVs] at h0
  refine open_vs (x := y0) (by simpa using h0) (fun k hk => hw k ?_)
  have hu := Try.underlying24
  simp [DataW.weights, DataW.weightsEach, hu]
  exact hk
end
end Go.Proofs.Ythnhmhjcpdomcaa
end

section
/- How requests that came in are opened. -/
namespace Go.Proofs.Ythnhmhjcpdomcaa
open Go.RowKit Go.Deep Go.Joins Go.ChangeShapes
theorem u_cellsI : Try.prog.cellsOf 3 = 1 := by kernel_rfl
theorem u_cellsI6 : Try.prog.cellsOf 2 = 1 := by kernel_rfl
theorem u_cellsM : Try.prog.cellsOf 38 = 4 := by kernel_rfl
theorem u_bytesM : Try.prog.bytesOf 38 = 32 := by kernel_rfl
theorem u_four_of {α : Type} {l : List α} (h : l.length = 4) : ∃ a b c d, l = [a, b, c, d] := by
  match l, h with
  | [a, b, c, d], _ => exact ⟨a, b, c, d, rfl⟩
theorem u_add_none {b off : Nat} (j i : Nat) : (((⟨b, off, none⟩ : Addr).add j).add i) = ⟨b, off + j + i, none⟩ := by
  rw [add_add]
  unfold Addr.add
  split <;> simp_all <;> omega
section
variable {H : Type} {enc : TypeId × Value → H} {w : World} {base : Nat} {spare : Nat → Bool} {held : Bool}
def uData (m : Mu) : DataW H := .agg [.lit (.int .i64 m.k), .lit (.int .i64 m.i), .lit (.int .i64 m.t), .lit (.int .i64 m.v)]
theorem u_i64_of {a : Int} (h : (Lit.int .i64 a).wf = true) : I64 a := by have := bounds_i64 h; unfold I64; omega
theorem open_mu {n : Nat} {cs : List Value} {x : DataW H × List MemPlace} (h : DataW.trod enc Try.prog w base spare held n 38 cs = some x) :
    ∃ y : Mu, cs = muCells y ∧ x.1 = uData y ∧ y.ok := by
  obtain ⟨y0, y1, y2, y3, m, rfl, hl, h0, h1, h2, h3⟩ := trod_struct4 Try.underlying38 h
  rw [u_cellsM] at hl
  obtain ⟨v0, v1, v2, v3, rfl⟩ := u_four_of hl
  simp only [u_cellsI, u_cellsI6] at h0 h1 h2 h3
  obtain ⟨a, e0, rfl, wa⟩ := DataW.trod_int Try.underlying3 h0
  obtain ⟨b, e1, rfl, wb⟩ := DataW.trod_int Try.underlying2 h1
  obtain ⟨c, e2, rfl, wc⟩ := DataW.trod_int Try.underlying2 h2
  obtain ⟨d, e3, rfl, wd⟩ := DataW.trod_int Try.underlying2 h3
  simp at e0 e1 e2 e3
  subst e0 e1 e2 e3
  exact ⟨⟨a, b, c, d⟩, rfl, rfl, ⟨u_i64_of wa, u_i64_of wb, u_i64_of wc, u_i64_of wd⟩⟩
theorem open_mus {n : Nat} {cs : List Value} {x : DataW H × List MemPlace} (h : DataW.trod enc Try.prog w base spare held n 35 cs = some x) :
    ∃ (ao : Option Addr) (cap : Nat) (L : List Mu), cs = [.slice ao L.length cap] ∧ (∀ y ∈ L, y.ok) ∧ L.length ≤ cap ∧ (ao = none → cap = 0) ∧ UsAt w (fun k => k < w.heap.size) ao L ∧ ((x.1 = .nil ∧ L = []) ∨ ∃ sp, x.1 = .slice (L.map uData) sp) := by
  rcases open_slice Try.underlying35 h with ⟨h0, h1⟩ | ⟨a, len, cap, m, k, D, Pl, rfl, hb, hl, hm, hmm, rfl, hx⟩
  · exact ⟨none, 0, [], h0, fun y hy => (by cases hy), by simp, fun _ => rfl, fun h => absurd h (by simp), Or.inl ⟨by rw [h1], rfl⟩⟩
  · have hlm : len ≤ m := by rw [hmm]; split <;> omega
    have each : ∀ i, i < len → ∃ y : Mu, w.cells? base (a.add (i * 4)) 4 = some (muCells y) ∧ D i = uData y ∧ y.ok := by
      intro i hi
      obtain ⟨cs', h1, h2⟩ := hx i (by omega)
      rw [u_cellsM] at h1
      obtain ⟨y, rfl, h3, h4⟩ := open_mu h2
      exact ⟨y, h1, h3, h4⟩
    haveI : Inhabited Mu := ⟨⟨0, 0, 0, 0⟩⟩
    obtain ⟨q, hq⟩ := choose_lt each
    have hlen : ((List.range len).map q).length = len := by simp
    refine ⟨some a, cap, (List.range len).map q, by rw [hlen], ?_, by rw [hlen]; exact hl, fun h => (by cases h), ?_, Or.inr ⟨(List.range (m - len)).map fun j => D (len + j), ?_⟩⟩
    · intro y hy
      obtain ⟨i, hi, rfl⟩ := List.mem_map.1 hy
      exact (hq i (List.mem_range.1 hi)).2.2
    · intro hpos
      rw [hlen] at hpos
      obtain ⟨_, _, hc0⟩ := World.cells?_some (hq 0 hpos).1
      have hs0 := World.cell?_spot (hc0 0 (by simp))
      have hspot : a.spot = none := by simpa [Addr.add] using hs0
      obtain ⟨b, off, spot⟩ := a
      subst hspot
      have cells : ∀ j (hj : j < len), w.cell? ⟨b, off + j * 4, none⟩ = some (.int .i64 (q j).k) ∧ w.cell? ⟨b, off + j * 4 + 1, none⟩ = some (.int .i64 (q j).i) ∧ w.cell? ⟨b, off + j * 4 + 2, none⟩ = some (.int .i64 (q j).t) ∧ w.cell? ⟨b, off + j * 4 + 3, none⟩ = some (.int .i64 (q j).v) := by
        intro j hj
        obtain ⟨_, _, hc⟩ := World.cells?_some (hq j hj).1
        have g0 := hc 0 (by simp)
        have g1 := hc 1 (by simp)
        have g2 := hc 2 (by simp)
        have g3 := hc 3 (by simp)
        rw [u_add_none] at g0 g1 g2 g3
        exact ⟨g0, g1, g2, g3⟩
      refine ⟨b, off, rfl, lt_cell (cells 0 hpos).1, fun j hj => ?_⟩
      rw [hlen] at hj
      have hcj := cells j hj
      unfold UC
      simpa using hcj
    · apply congrArg (fun l => DataW.slice l _)
      rw [List.map_map]
      refine List.map_congr_left fun i hi => ?_
      exact (hq i (List.mem_range.1 hi)).2.1
end
end Go.Proofs.Ythnhmhjcpdomcaa
end
