/- slices.CompactFunc of requests: the walk. -/
import Derived.Test.YthnhmhjcpdomcaaMuComp2
namespace Go.Proofs.Ythnhmhjcpdomcaa
open Go.RowKit Go.Sort
theorem zeroMu : ∀ w, (zeroValue 38).run Try.prog w = .ok (.agg #[.int .i64 0, .int .i64 0, .int .i64 0, .int .i64 0]) w := Try.zeroValue38
theorem take_set_snoc {R : List Mu} {k : Nat} (h : k < R.length) {x : Mu} : (R.set k x).take (k + 1) = R.take k ++ [x] := by
  rw [List.take_succ_eq_append_getElem (by rw [List.length_set]; exact h), List.getElem_set_self, List.take_set_of_le (Nat.le_refl _)]
theorem flat_takeU (L : List Mu) (n : Nat) : (L.flatMap muCells).take (n * 4) = (L.take n).flatMap muCells := by
  by_cases h : n ≤ L.length
  · conv => lhs; rw [← List.take_append_drop n L, List.flatMap_append]
    rw [List.take_left' (by rw [mu_len, List.length_take]; omega)]
  · rw [List.take_of_length_le (by rw [mu_len]; omega), List.take_of_length_le (by omega)]
/-- What the inner loop holds. -/
structure CI (w0 wr : World) (base g n cap : Nat) (L : List Mu) (k0 k k2 : Nat) : Prop where
  row : ∃ R, R.length = n ∧ UO wr base (.slice (some ⟨g, 0, none⟩) n cap) R ∧ R.take k = dd (L.take (k0 + k2)) ∧ ∀ j, k0 + k2 ≤ j + 1 → R[j]? = L[j]?
  lt : k + 1 ≤ k0 + k2
  fr : Fr w0 wr (fun b => b = g)
set_option maxRecDepth 100000 in
set_option maxHeartbeats 1000000 in
theorem compact_many {w : World} {base g cap : Nat} {L : List Mu} (h : UO w base (.slice (some ⟨g, 0, none⟩) L.length cap) L) (hl : L.length ≤ 1073741824) (h2 : 2 ≤ L.length) :
    Calls Try.prog 69 #[.slice (some ⟨g, 0, none⟩) L.length cap, .func (.func 70) #[] #[]] w fun e w' => ∃ v', e = .returned v' ∧ UO w' base v' (dd L) ∧ v'.ownBlock = some g ∧ Fr w w' (fun b => b = g) := by
  have hcap : L.length ≤ cap ∧ cap ≤ 9223372036854775807 := by
    rcases h.2 with ⟨h1, _⟩ | ⟨g', cap', cur, h1, _, hg, hn, hc, _⟩
    · cases h1
    · cases h1
      unfold maxLen at hc
      omega
  obtain ⟨hc1, hc2⟩ := hcap
  obtain ⟨n, hn⟩ : ∃ n, L.length = n := ⟨_, rfl⟩
  rw [hn] at h hl h2 hc1 ⊢
  have HN : Hid (L.length = n) := hn
  have HU : Hid _ := h
  clear hn h
  have hm : ¬ (n : Int) < 2 := by omega
  go_enter Try.func69, Try.ntmps69
  go_wp2
  go_loopw [5] (fun u wr => ∃ k : Nat, 1 ≤ k ∧ k ≤ n ∧ u = .int .i64 k ∧ Hid (dd (L.take k) = L.take k) ∧ Below w.heap.size w wr) (fun u _ => n - (intOf u).toNat)
  case atStart =>
    refine ⟨1, Nat.le_refl _, by omega, rfl, ?_, Below.refl _ _⟩
    show _ = _
    have := HN.out
    match L, this with
    | [], e => simp at e; omega
    | x :: L, _ => rfl
  case round =>
    obtain ⟨k, hk1, hkn, rfl, HD, hb⟩ := hrel
    by_cases hlt : k < n
    · obtain ⟨j, hj⟩ : ∃ j, k = j + 1 := ⟨k - 1, by omega⟩
      have hLk : k < L.length := by rw [HN.out]; exact hlt
      have hc1' := (UO.cells HU.out hLk).new hb
      have hc0' := (UO.cells HU.out (j := j) (by omega)).new hb
      have HT := dd_take hj hLk
      have HX := List.take_succ_eq_append_getElem hLk
      generalize L[k] = x at hc1' HT HX
      generalize L[j]'(by omega) = y at hc0' HT
      have HTT : Hid _ := HT
      have HXX : Hid _ := HX
      clear HT HX
      have hsub : (k : Int) - 1 = (j : Int) := by omega
      have hjn : j < n := by omega
      have hwr : IntKind.i64.wrap (j : Int) = (j : Int) := IntWalk.i64_in _ (by omega)
      have HJ : Hid (k = j + 1) := hj
      have x0 : UC wr g (k * 4) x ∧ UC wr g (j * 4) y := ⟨hc1', hc0'⟩
      clear hj hc1' hc0' hLk
      have HB : Hid _ := hb
      cases hs : sameU x y
      · have hS := fun W => samething_any x y W
        rw [hs] at hS
        have HS : Hid _ := hs
        clear hs hb
        go_upto_region 6 with (fail)
        unfold UC at x0
        go_region_held (fun w' => (w'.cell? ⟨g, k * 4, none⟩ = some (.int .i64 x.k) ∧ w'.cell? ⟨g, k * 4 + 1, none⟩ = some (.int .i64 x.i) ∧ w'.cell? ⟨g, k * 4 + 2, none⟩ = some (.int .i64 x.t) ∧ w'.cell? ⟨g, k * 4 + 3, none⟩ = some (.int .i64 x.v)) ∧ (w'.cell? ⟨g, j * 4, none⟩ = some (.int .i64 y.k) ∧ w'.cell? ⟨g, j * 4 + 1, none⟩ = some (.int .i64 y.i) ∧ w'.cell? ⟨g, j * 4 + 2, none⟩ = some (.int .i64 y.t) ∧ w'.cell? ⟨g, j * 4 + 3, none⟩ = some (.int .i64 y.v))) (first | exact x1 | exact x0)
          (first | (go_at_call 70; refine (hS _).mono ?_; rintro e w1 ⟨rfl, hb1⟩; have x1 := And.intro (UC.drew x0.1 hb1) (UC.drew x0.2 hb1); unfold UC at x1))
        have HB1 : Hid (Below w.heap.size w w1) := HB.out.trans (((Below.refl _ _).drew).trans hb1 |>.mono HB.out.size)
        clear x0 x1 hb1
        go_wp2
        go_roundw
        case rel => exact ⟨k + 1, by omega, by omega, by go_num, by show _ = _; rw [HTT.out, HS.out, HD.out, HXX.out]; rfl, HB1.out⟩
        case measure => simp [intOf]; omega
      · have hS := fun W => samething_any x y W
        rw [hs] at hS
        have HS : Hid _ := hs
        clear hs hb
        go_upto_region 6 with (fail)
        unfold UC at x0
        go_region_held (fun w' => (w'.cell? ⟨g, k * 4, none⟩ = some (.int .i64 x.k) ∧ w'.cell? ⟨g, k * 4 + 1, none⟩ = some (.int .i64 x.i) ∧ w'.cell? ⟨g, k * 4 + 2, none⟩ = some (.int .i64 x.t) ∧ w'.cell? ⟨g, k * 4 + 3, none⟩ = some (.int .i64 x.v)) ∧ (w'.cell? ⟨g, j * 4, none⟩ = some (.int .i64 y.k) ∧ w'.cell? ⟨g, j * 4 + 1, none⟩ = some (.int .i64 y.i) ∧ w'.cell? ⟨g, j * 4 + 2, none⟩ = some (.int .i64 y.t) ∧ w'.cell? ⟨g, j * 4 + 3, none⟩ = some (.int .i64 y.v))) (first | exact x1 | exact x0)
          (first | (go_at_call 70; refine (hS _).mono ?_; rintro e w1 ⟨rfl, hb1⟩; have x1 := And.intro (UC.drew x0.1 hb1) (UC.drew x0.2 hb1); unfold UC at x1))
        have HB1 : Hid (Below w.heap.size w w1) := HB.out.trans (((Below.refl _ _).drew).trans hb1 |>.mono HB.out.size)
        clear x0 x1 hb1 hS hwr hsub hjn
        have hcn : ¬ cap = k := by omega
        have HDD : Hid (dd (L.take (k + 1)) = L.take k) := by show _ = _; rw [HTT.out, HS.out, HD.out]; simp
        clear HTT HXX HS HD HJ HB
        go_wp2
        go_loopw [5, 7] (fun u v wr => ∃ kk k2 : Nat, 1 ≤ k2 ∧ k2 ≤ n - k ∧ u = .int .i64 kk ∧ v = .int .i64 k2 ∧ CI w wr base g n cap L k kk k2) (fun _ v _ => (n - k) - (intOf v).toNat)
        case atStart => exact ⟨k, 1, Nat.le_refl _, by omega, rfl, rfl, ⟨⟨L, HN.out, by have := UO.new HU.out HB1.out; exact this, HDD.out.symm, fun _ _ => rfl⟩, Nat.le_refl _, Fr.ofBelow HB1.out _⟩⟩
        case round =>
          obtain ⟨kk, k2, hk21, hk2n, rfl, rfl, ⟨R, hR1, hR2, hR3, hR4⟩, hkl, hfr⟩ := hrel
          clear HB1
          by_cases hlt2 : k2 < n - k
          · obtain ⟨p, hp⟩ : ∃ p, k2 = p + 1 := ⟨k2 - 1, by omega⟩
            have hLq : k + k2 < L.length := by rw [HN.out]; omega
            have e1 : R[k + k2]'(by omega) = L[k + k2] := by have := hR4 (k + k2) (by omega); rwa [List.getElem?_eq_getElem (by omega), List.getElem?_eq_getElem hLq, Option.some.injEq] at this
            have e0 : R[k + p]'(by omega) = L[k + p]'(by omega) := by have := hR4 (k + p) (by omega); rwa [List.getElem?_eq_getElem (by omega), List.getElem?_eq_getElem (by omega), Option.some.injEq] at this
            have c1 := UO.cells hR2 (j := k + k2) (by omega)
            have c0 := UO.cells hR2 (j := k + p) (by omega)
            have ck := UO.cells hR2 (j := kk) (by omega)
            rw [e1, Nat.add_mul] at c1
            rw [e0, Nat.add_mul] at c0
            have HT := dd_take (L := L) (j := k + p) (k := k + k2) (by omega) hLq
            generalize L[k + k2] = x2 at c1 HT
            generalize L[k + p]'(by omega) = y2 at c0 HT
            have hz := UO.soft hR2
            have HT2 : Hid _ := HT
            have HR1 : Hid _ := hR1
            have HR2 : Hid _ := hR2
            have HR3 : Hid _ := hR3
            have HR4 : Hid _ := hR4
            have HKl : Hid _ := hkl
            have HFr : Hid _ := hfr
            have hsub : (k2 : Int) - 1 = (p : Int) := by omega
            have hpn : p < n - k := by omega
            have hwr : IntKind.i64.wrap (p : Int) = (p : Int) := IntWalk.i64_in _ (by omega)
            have hkkn : kk < n := by omega
            generalize R[kk]'(by omega) = z at ck
            have x0 : UC wr g (k * 4 + k2 * 4) x2 ∧ UC wr g (k * 4 + p * 4) y2 := ⟨c1, c0⟩
            have HP : Hid (k2 = p + 1) := hp
            have hz0 := hz (kk * 4)
            have hz1 := hz (kk * 4 + 1)
            have hz2 := hz (kk * 4 + 2)
            have hz3 := hz (kk * 4 + 3)
            have HZ : Hid (UC wr g (kk * 4) z ∧ ∀ o, wr.frozen? ⟨g, o, none⟩ = false) := ⟨ck, hz⟩
            clear HT e0 e1 c0 c1 ck hR1 hR2 hR3 hR4 hkl hfr hp hz hz0 hz1 hz2 hz3 hLq
            cases hs : sameU x2 y2
            all_goals
              have hS := fun W => samething_any x2 y2 W
              rw [hs] at hS
              have HS : Hid _ := hs
              clear hs
              go_upto_region 11 with (fail)
              unfold UC at x0
              go_region_held (fun w' => (w'.cell? ⟨g, k * 4 + k2 * 4, none⟩ = some (.int .i64 x2.k) ∧ w'.cell? ⟨g, k * 4 + k2 * 4 + 1, none⟩ = some (.int .i64 x2.i) ∧ w'.cell? ⟨g, k * 4 + k2 * 4 + 2, none⟩ = some (.int .i64 x2.t) ∧ w'.cell? ⟨g, k * 4 + k2 * 4 + 3, none⟩ = some (.int .i64 x2.v)) ∧ (w'.cell? ⟨g, k * 4 + p * 4, none⟩ = some (.int .i64 y2.k) ∧ w'.cell? ⟨g, k * 4 + p * 4 + 1, none⟩ = some (.int .i64 y2.i) ∧ w'.cell? ⟨g, k * 4 + p * 4 + 2, none⟩ = some (.int .i64 y2.t) ∧ w'.cell? ⟨g, k * 4 + p * 4 + 3, none⟩ = some (.int .i64 y2.v))) (first | exact x1 | exact x0)
                (first | (go_at_call 70; refine (hS _).mono ?_; rintro e w2 ⟨rfl, hb2⟩; have x1 := And.intro (UC.drew x0.1 hb2) (UC.drew x0.2 hb2); unfold UC at x1))
              have HB2 : Hid (Below wr.heap.size wr w2) := ((Below.refl _ wr).drew).trans hb2
              have HX1 : Hid _ := x1
              clear x0 x1 hb2 hS
            · have hb2 := HB2.out
              have hg : g < wr.heap.size := lt_cell HZ.out.1.1
              have ck2 := HZ.out.1.new hb2
              have hz2 : ∀ o, w2.frozen? ⟨g, o, none⟩ = false := fun o => (hb2.frozen (p := ⟨g, o, none⟩) hg).trans (HZ.out.2 o)
              have q0 := ck2.1
              have q1 := ck2.2.1
              have q2 := ck2.2.2.1
              have q3 := ck2.2.2.2
              have z0 := hz2 (kk * 4)
              have z1 := hz2 (kk * 4 + 1)
              have z2 := hz2 (kk * 4 + 2)
              have z3 := hz2 (kk * 4 + 3)
              have r0 := HX1.out.1.1
              have r1 := HX1.out.1.2.1
              have r2 := HX1.out.1.2.2.1
              have r3 := HX1.out.1.2.2.2
              have hkk := UO.set (UO.new HR2.out hb2) (j := kk) (by rw [HR1.out]; exact hkkn) x2
              have HKK : Hid _ := hkk
              clear hb2 hg ck2 hz2 hkk
              go_wp2
              go_roundw
              case rel => exact ⟨kk + 1, k2 + 1, by omega, by omega, by go_num, by go_num, ⟨⟨R.set kk x2, by rw [List.length_set]; exact HR1.out, HKK.out, by rw [take_set_snoc (by rw [HR1.out]; exact hkkn), HR3.out, ← Nat.add_assoc, HT2.out, HS.out]; rfl, fun q hq => by rw [List.getElem?_set_ne (by have := HKl.out; omega)]; exact HR4.out q (by omega)⟩, by have := HKl.out; omega, ((HFr.out.trans (Fr.ofBelow HB2.out (fun b => b = g)) (fun _ _ h => h)).trans (fr_setCells g (S := fun b => b = g) rfl (muCells x2) (kk * 4) w2) (fun _ _ h => h))⟩⟩
              case measure => simp [intOf]; omega
            · have hb2 := HB2.out
              have hkk := UO.new HR2.out hb2
              have HKK : Hid _ := hkk
              clear hb2 hkk
              go_wp2
              go_roundw
              case rel => exact ⟨kk, k2 + 1, by omega, by omega, rfl, by go_num, ⟨⟨R, HR1.out, HKK.out, by rw [HR3.out, ← Nat.add_assoc, HT2.out, HS.out]; simp, fun q hq => HR4.out q (by omega)⟩, by have := HKl.out; omega, HFr.out.trans (Fr.ofBelow HB2.out (fun b => b = g)) (fun _ _ h => h)⟩⟩
              case measure => simp [intOf]; omega
          · obtain rfl : k2 = n - k := by omega
            have hkn2 : k + (n - k) = n := by omega
            rw [hkn2, ← HN.out, List.take_length] at hR3
            have hR5 : wr.ownsRow base 38 4 (.slice (some ⟨g, 0, none⟩) n cap) n (R.flatMap muCells) := by have h := hR2; unfold UO at h; rwa [hR1] at h
            obtain ⟨g', cap', cur, hv1, hv2, hB, hv3⟩ := own_blk hR5 (by omega)
            cases hv1
            have hsz := hB.size
            have hnk := Nat.mul_le_mul_right 4 hv2
            obtain ⟨zs, hzs⟩ : ∃ zs, zs = (Builtin.zeroCells (Value.agg #[.int .i64 0, .int .i64 0, .int .i64 0, .int .i64 0]).cells (n - kk)).toList := ⟨_, rfl⟩
            have hzl : zs.length = (n - kk) * 4 := by rw [hzs, zc_len]; rfl
            have hcl : ∀ ty, (Builtin.clear_ #[35] ty #[.slice (some ⟨g, kk * 4, none⟩) (n - kk) (cap - kk)]).run Try.prog wr = .ok (.tuple #[]) (wr.setCells g (kk * 4) zs) := fun ty => by
              rw [hzs]
              exact run_clear_k wr _ _ ty _ Try.underlying35 zeroMu (by decide) (by intro v hv; simp [Value.cells] at hv; rcases hv with rfl | rfl | rfl | rfl <;> rfl) g (kk * 4) (n - kk) (cap - kk) (by omega) (fun q hq => hB.there (by have : (Value.agg #[.int .i64 0, .int .i64 0, .int .i64 0, .int .i64 0]).cells.size = 4 := rfl; rw [this] at hq; omega)) (fun q hq => hB.soft _)
            have hfin := (hB.set (kk * 4) zs (by rw [hzl]; omega)).own (n := kk) (by omega)
            rw [over_take_lo _ _ _ (Nat.le_refl _) (by omega)] at hfin
            have hk4 : cur.take (kk * 4) = (dd L).flatMap muCells := by
              have e : cur.take (kk * 4) = (R.flatMap muCells).take (kk * 4) := by rw [← hv3, List.take_take, Nat.min_eq_left (by omega)]
              rw [e, ← hR3, flat_takeU]
            rw [hk4] at hfin
            have hlen : (dd L).length = kk := by rw [← hR3, List.length_take]; omega
            have HF : Hid (UO (wr.setCells g (kk * 4) zs) base (.slice (some ⟨g, 0, none⟩) kk cap) (dd L)) := by show World.ownsRow _ _ _ _ _ _ _; rw [hlen]; exact hfin
            have HFr : Hid (Fr w (wr.setCells g (kk * 4) zs) (fun b => b = g)) := hfr.trans (fr_setCells g (S := fun b => b = g) rfl zs (kk * 4) wr) (fun _ _ h => h)
            have hkn3 : kk ≤ n := by omega
            have hkc : kk ≤ cap := by omega
            have hkc2 : ¬ cap = kk := by omega
            clear hR1 hR2 hR3 hR4 hR5 hkl hfr hB hv3 hsz hnk hzs hzl hfin hk4 hlen
            go_wp2
            go_ret
            exact ⟨_, rfl, HF.out, rfl, HFr.out⟩
    · obtain rfl : k = n := by omega
      have HD2 : Hid (dd L = L) := by
        show _ = _
        have := HD.out
        rwa [← HN.out, List.take_length] at this
      have HF : Hid (UO wr base (.slice (some ⟨g, 0, none⟩) k cap) (dd L)) := by show UO _ _ _ _; rw [HD2.out]; exact UO.new HU.out hb
      clear HD2 HD
      go_wp2
      go_ret
      exact ⟨_, rfl, HF.out, rfl, Fr.ofBelow hb _⟩
/-- Few requests stay as they are. -/
theorem compact_few {w : World} {base : Nat} {v : Value} {L : List Mu} (h : UO w base v L) (h2 : L.length < 2) :
    Calls Try.prog 69 #[v, .func (.func 70) #[] #[]] w fun e w' => e = .returned v ∧ w' = w := by
  have hm : (L.length : Int) < 2 := by omega
  rcases h.2 with ⟨rfl, h1⟩ | ⟨g', cap', cur, rfl, _⟩
  · clear h
    go_enter Try.func69, Try.ntmps69
    go_wp2
    go_ret
    exact ⟨rfl, rfl⟩
  · clear h
    generalize L.length = n at hm
    go_enter Try.func69, Try.ntmps69
    go_wp2
    go_ret
    exact ⟨rfl, rfl⟩
theorem dd_few : ∀ {L : List Mu}, L.length < 2 → dd L = L
  | [], _ => rfl
  | [x], _ => rfl
  | _ :: _ :: _, h => by simp at h; omega
theorem compact_any {w : World} {base : Nat} {v : Value} {L : List Mu} (h : UO w base v L) (hl : L.length ≤ 1073741824) :
    Calls Try.prog 69 #[v, .func (.func 70) #[] #[]] w fun e w' => ∃ v', e = .returned v' ∧ UO w' base v' (dd L) ∧ Fr w w' (fun b => v.ownBlock = some b) := by
  by_cases h2 : L.length < 2
  · refine (compact_few h h2).mono ?_
    rintro e w' ⟨rfl, rfl⟩
    exact ⟨v, rfl, by rw [dd_few h2]; exact h, Fr.refl _ _⟩
  · rcases h.2 with ⟨_, h1⟩ | ⟨g', cap', cur, rfl, _⟩
    · omega
    · refine (compact_many h hl (by omega)).mono ?_
      rintro e w' ⟨v', rfl, h1, _, h3⟩
      exact ⟨v', rfl, h1, h3.mono (fun k _ e => by rw [e]; rfl)⟩
end Go.Proofs.Ythnhmhjcpdomcaa
