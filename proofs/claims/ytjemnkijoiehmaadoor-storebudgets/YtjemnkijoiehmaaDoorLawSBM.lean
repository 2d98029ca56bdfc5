import Derived.Test.YtjemnkijoiehmaaDoorSbActM
import Derived.Test.YtjemnkijoiehmaaDoorSbActM
import Derived.Test.YtjemnkijoiehmaaDoorSbActM
/- StoreBudgets: the walk. -/
namespace Go.Proofs.YtjemnkijoiehmaaDoor
open Go.RowKit Go.Maps
attribute [local go_sem] Oper.semAt_some
/-- What the law holds behind k acts. -/
structure TwI (w : World) (B qa pa C qb pb : Nat) (Y : List Sct) (k : Nat) (wr : World) (Ka Kb : St) : Prop where
  two : Two B wr qa pa C qb pb Ka Kb (16 * k) (16 * k)
  f : Ka.f = Kb.f
  sp : Kb.sp = 0
  bud : Kb.bud = 1073741824
  tot : totL Kb.f nums ≤ sumS (Y.take k)
  spa : Ka.sp ≤ 16 * k
  bel : Below B w wr
section
variable {w wr wr' : World} {B qa pa C qb pb k : Nat} {Y : List Sct} {Ka Kb : St} {n : Int}
theorem TwI.get (h : TwI w B qa pa C qb pb Y k wr Ka Kb) (hk : k < Y.length) (hT : sumS Y ≤ 1073741824) (h2 : Two B wr' qa pa C qb pb (Ka.getK n) (Kb.getK n) (16 * k + 16) (16 * k + 16)) (hb : Below B wr wr') : TwI w B qa pa C qb pb Y (k + 1) wr' (Ka.getK n) (Kb.getK n) := by
  have h1 := sumS_take Y k hk
  have h3 := sumS_le Y k
  have h4 := h.tot
  have h5 := h.spa
  have h6 := St.getK_sp (n := n) h.two.oka
  refine ⟨h2, by rw [St.getK_f, St.getK_f]; exact h.f, St.getK_zero h.two.okb h.sp (by rw [h.bud]; omega), St.getK_bud.trans h.bud, by rw [St.getK_f]; omega, by omega, h.bel.trans hb⟩
theorem TwI.put {t : Bs} (h : TwI w B qa pa C qb pb Y k wr Ka Kb) (hk : k < Y.length) (ht : Y[k].s = t) (hT : sumS Y ≤ 1073741824) (h2 : Two B wr' qa pa C qb pb (Ka.putK n t) (Kb.putK n t) (16 * k + 16) (16 * k + 16)) (hb : Below B wr wr') : TwI w B qa pa C qb pb Y (k + 1) wr' (Ka.putK n t) (Kb.putK n t) := by
  have h1 := sumS_take Y k hk
  rw [ht] at h1
  have h3 := sumS_le Y (k + 1)
  have h4 := h.tot
  have h5 := h.spa
  have h6 := St.putK_sp (n := n) (t := t) h.two.oka
  have h7 := totL_put Kb.f n t
  have hf : (Ka.putK n t).f = (Kb.putK n t).f := by rw [St.putK_f, St.putK_f, h.f]
  have hz : ((totL (putO Kb.f n t) nums : Nat) : Int) ≤ Kb.bud := by rw [h.bud]; omega
  have ht : totL (Kb.putK n t).f nums ≤ sumS (Y.take (k + 1)) := by rw [St.putK_f]; omega
  exact ⟨h2, hf, St.putK_zero h.two.okb h.sp hz, St.putK_bud.trans h.bud, ht, by omega, h.bel.trans hb⟩
theorem TwI.drop (h : TwI w B qa pa C qb pb Y k wr Ka Kb) (hk : k < Y.length) (h2 : Two B wr' qa pa C qb pb (Ka.dropK n) (Kb.dropK n) (16 * k + 16) (16 * k + 16)) (hb : Below B wr wr') : TwI w B qa pa C qb pb Y (k + 1) wr' (Ka.dropK n) (Kb.dropK n) := by
  have h1 := sumS_take Y k hk
  have h4 := h.tot
  have h5 := h.spa
  have h7 := totL_cut Kb.f n nums
  refine ⟨h2, by rw [St.dropK_f, St.dropK_f, h.f], St.dropK_sp.trans h.sp, St.dropK_bud.trans h.bud, by rw [St.dropK_f]; unfold drpO; omega, by rw [St.dropK_sp]; omega, h.bel.trans hb⟩
end
set_option linter.unusedSimpArgs false in
set_option maxRecDepth 100000 in
set_option maxHeartbeats 8000000 in
theorem budgets_any {w : World} {ao : Option Addr} {cap : Nat} {Y : List Sct} {bud : Int} (hact : 0 < Y.length → ∃ b off, ao = some ⟨b, off, none⟩ ∧ SctS w b off Y) (hb : bud ≤ 9223372036854775807) (hT : sumS Y ≤ 1073741824) :
    Calls Tryd.prog 3 #[.slice ao Y.length cap, .int .i64 bud] w fun e w' => e = .returned (.bool true) ∧ Below w.heap.size w w' := by
  have hN := new_any w
  have HA : Hid (0 < Y.length → ∃ b off, ao = some ⟨b, off, none⟩ ∧ SctS w b off Y) := hact
  have HT : Hid (sumS Y ≤ 1073741824) := hT
  obtain ⟨n0, hn0⟩ : ∃ n0, Y.length = n0 := ⟨_, rfl⟩
  have HNn : Hid (Y.length = n0) := hn0
  rw [hn0]
  clear hact hT hn0
  by_cases hneg : bud < 0
  · have h0 : (0 : Int) ≤ 0 := by decide
    have h1 : (0 : Int) ≤ 9223372036854775807 := by decide
    go_enter Tryd.func3, Tryd.ntmps3
    go_upto_region 3 with (fail)
    go_upto_region 4 with (first
      | (go_at_call 5; refine Calls.mono hN ?_; rintro r w1 ⟨rfl, e1, e2⟩; have HB1 : Hid (Below w.heap.size w w1) := e2; have hNw := snew_ok (Xm := fun _ => False) (w := w1) (B := w.heap.size) (p := w.heap.size) (bud := 0) ⟨_, _, _, e1⟩ e2.size h0 h1; clear e1 e2 hN)
      | (go_at_call 4; refine Calls.mono hNw ?_; rintro r w2 ⟨rfl, e1, e2⟩; have HA2 : Hid (SA (fun _ => False) w2 w.heap.size w1.heap.size w.heap.size (St.new 0) 0) := e1; have HB2 : Hid (Below w1.heap.size w1 w2) := e2; clear e1 e2 hNw))
    have HS2 : Hid (w.heap.size ≤ w2.heap.size) := Nat.le_trans HB1.out.size HB2.out.size
    have hN2 := st_newdisk w2
    go_upto_region 5 with (first
      | (go_at_call 5; refine Calls.mono hN2 ?_; rintro r w3 ⟨rfl, e1, e2⟩; have HB3 : Hid (Below w2.heap.size w2 w3) := e2; have hNw2 := snew_ok (Xm := fun k => k < w2.heap.size) (w := w3) (B := w2.heap.size) (p := w2.heap.size) (bud := 1073741824) e1 e2.size (by decide) (by decide); clear e1 e2 hN2)
      | (go_at_call 4; refine Calls.mono hNw2 ?_; rintro r w4 ⟨rfl, e1, e2⟩; have HA4 : Hid (SA (fun k => k < w2.heap.size) w4 w2.heap.size w3.heap.size w2.heap.size (St.new 1073741824) 0) := e1; have HB4 : Hid (Below w3.heap.size w3 w4) := e2; clear e1 e2 hNw2))
    have HTw : Hid (Two w.heap.size w4 w1.heap.size w.heap.size w2.heap.size w3.heap.size w2.heap.size (St.new 0) (St.new 1073741824) 0 0) := Two.made HA2.out HS2.out HB3.out HA4.out HB4.out
    have HBl : Hid (Below w.heap.size w w4) := ((HB1.out.trans (HB2.out.mono HB1.out.size)).trans (HB3.out.mono HS2.out)).trans (HB4.out.mono (Nat.le_trans HS2.out HB3.out.size))
    clear HA2 HS2 HB3 HA4 HB4 HB1 HB2
    obtain ⟨B, hB⟩ : ∃ B, w.heap.size = B := ⟨_, rfl⟩
    rw [hB] at HTw HBl ⊢
    generalize w1.heap.size = qa at HTw ⊢
    generalize w2.heap.size = C at HTw ⊢
    generalize w3.heap.size = qb at HTw ⊢
    have hAw := awake19 w4
    go_upto_region 7 with (go_at_call 6; refine Calls.mono hAw ?_; rintro r w5 ⟨rfl, e1⟩; have HB5 : Hid (Below w4.heap.size w4 w5) := e1; clear e1 hAw)
    have HI0 : Hid (TwI w B qa B C qb C Y 0 w5 (St.new 0) (St.new 1073741824)) := ⟨HTw.out.new HB5.out, rfl, rfl, rfl, by show totL noneO nums ≤ _; rw [totL_none]; exact Nat.zero_le _, Nat.zero_le _, HBl.out.trans (HB5.out.mono HTw.out.low)⟩
    have HBw : Hid (w.heap.size = B) := hB
    clear HTw HBl HB5 hB
    go_wp2
    go_loopw [9] (fun i wr => ∃ k : Nat, k ≤ n0 ∧ k ≤ 80 ∧ i = .int .i64 k ∧ ∃ Ua Ub, TwI w B qa B C qb C Y k wr Ua Ub) (fun i _ => 80 - (intOf i).toNat)
    case atStart => exact ⟨0, Nat.zero_le _, Nat.zero_le _, rfl, _, _, HI0.out⟩
    case round =>
      obtain ⟨k, hk, hk80, rfl, Ua, Ub, hi⟩ := hrel
      have HI : Hid (TwI w B qa B C qb C Y k wr Ua Ub) := hi
      clear hi
      by_cases hlt : k < n0
      · by_cases h80 : k < 80
        · have hkY : k < Y.length := by have := HNn.out; omega
          have HkY : Hid (k < Y.length) := hkY
          obtain ⟨b, off, rfl, hcs⟩ := HA.out (by omega)
          obtain ⟨x0, x1, x2, hin, hsl⟩ := hcs k hkY
          have hbB : b < B := by rw [← HBw.out]; exact World.block_lt_of_cell? w _ x0
          have hrow : ∃ y : Sct, (∀ W, Below B w W → W.cell? ⟨b, off + k * 3, none⟩ = some (.int .i64 y.k) ∧ W.cell? ⟨b, off + k * 3 + 1, none⟩ = some (.int .i64 y.n) ∧ W.cell? ⟨b, off + k * 3 + 2, none⟩ = some (.string (str y.s))) ∧ (∀ wr' (n : Int), Two B wr' qa B C qb C (Ua.putK n y.s) (Ub.putK n y.s) (16 * k + 16) (16 * k + 16) → Below B wr wr' → TwI w B qa B C qb C Y (k + 1) wr' (Ua.putK n y.s) (Ub.putK n y.s)) ∧ I6 y.n ∧ y.s.length ≤ 140737488351232 :=
            ⟨Y[k]'hkY, fun W hW => ⟨(hW.cell (p := ⟨b, off + k * 3, none⟩) hbB).trans x0, (hW.cell (p := ⟨b, off + k * 3 + 1, none⟩) hbB).trans x1, (hW.cell (p := ⟨b, off + k * 3 + 2, none⟩) hbB).trans x2⟩, fun wr' n h2 hb => HI.out.put hkY rfl HT.out h2 hb, hin, hsl⟩
          have hc16 : 16 * k ≤ 900000 := by omega
          have hspa : Ua.sp ≤ 1000000 := by have := HI.out.spa; omega
          have hspb : Ub.sp ≤ 1000000 := by rw [HI.out.sp]; omega
          clear hkY hcs x0 x1 x2 hin hsl
          obtain ⟨⟨yk, yn, ys⟩, hcs, hput, hin, hsl⟩ := hrow
          have HC1 : Hid (∀ W, Below B w W → W.cell? ⟨b, off + k * 3, none⟩ = some (.int .i64 yk) ∧ W.cell? ⟨b, off + k * 3 + 1, none⟩ = some (.int .i64 yn) ∧ W.cell? ⟨b, off + k * 3 + 2, none⟩ = some (.string (str ys))) := hcs
          have HPut : Hid (∀ wr' (n : Int), Two B wr' qa B C qb C (Ua.putK n ys) (Ub.putK n ys) (16 * k + 16) (16 * k + 16) → Below B wr wr' → TwI w B qa B C qb C Y (k + 1) wr' (Ua.putK n ys) (Ub.putK n ys)) := hput
          simp only at hin hsl
          clear hcs hput
          by_cases k4 : yk = 4
          · subst k4
            obtain ⟨x0, x1, x2⟩ := HC1.out wr HI.out.bel
            have hGa := HI.out.two.callA (f := 7) (args := #[.pointer (some ⟨qa, 0, none⟩), .int .i64 yn]) (fun Xm h => sget h HI.out.two.low hc16 hin hspa)
            obtain ⟨gs, ge, hfn⟩ : ∃ s e, fndV (Ua.f yn) = .tuple #[.string (str s), .int .i64 e] := ⟨_, _, rfl⟩
            rw [hfn] at hGa
            have HFb : Hid (fndV (Ub.f yn) = .tuple #[.string (str gs), .int .i64 ge]) := by show _ = _; rw [← HI.out.f]; exact hfn
            clear hfn
            go_upto_region 17 with (go_at_call 7; refine Calls.mono hGa ?_; rintro r w6 ⟨rfl, e1, e2⟩; have HT6 : Hid (Two B w6 qa B C qb C (Ua.getK yn) Ub (16 * k + 16) (16 * k)) := e1; have HB6 : Hid (Below B wr w6) := e2; clear e1 e2 hGa)
            clear x0 x1 x2
            obtain ⟨x0, x1, x2⟩ := HC1.out w6 (HI.out.bel.trans HB6.out)
            have hGb := HT6.out.callB (f := 7) (args := #[.pointer (some ⟨qb, 0, none⟩), .int .i64 yn]) (fun Xm h => sget h (by obtain ⟨Xa, Xb, h6⟩ := HT6.out; exact h6.hC) hc16 hin hspb)
            rw [HFb.out] at hGb
            go_upto_region 18 with (go_at_call 7; refine Calls.mono hGb ?_; rintro r w7 ⟨rfl, e1, e2⟩; have HT7 : Hid (Two B w7 qa B C qb C (Ua.getK yn) (Ub.getK yn) (16 * k + 16) (16 * k + 16)) := e1; have HB7 : Hid (Below B w6 w7) := e2; clear e1 e2 hGb)
            clear x0 x1 x2
            have HI7 : Hid (TwI w B qa B C qb C Y (k + 1) w7 (Ua.getK yn) (Ub.getK yn)) := HI.out.get HkY.out HT.out HT7.out (HB6.out.trans HB7.out)
            go_wp2
            go_roundw
            case rel => exact ⟨k + 1, hlt, h80, by go_num, _, _, HI7.out⟩
            case measure => simp [intOf]; omega
          · by_cases k5 : yk = 5
            · subst k5
              obtain ⟨x0, x1, x2⟩ := HC1.out wr HI.out.bel
              have hGa := HI.out.two.callA (f := 7) (args := #[.pointer (some ⟨qa, 0, none⟩), .int .i64 yn]) (fun Xm h => sget h HI.out.two.low hc16 hin hspa)
              obtain ⟨gs, ge, hfn⟩ : ∃ s e, fndV (Ua.f yn) = .tuple #[.string (str s), .int .i64 e] := ⟨_, _, rfl⟩
              rw [hfn] at hGa
              have HFb : Hid (fndV (Ub.f yn) = .tuple #[.string (str gs), .int .i64 ge]) := by show _ = _; rw [← HI.out.f]; exact hfn
              clear hfn
              go_upto_region 17 with (go_at_call 7; refine Calls.mono hGa ?_; rintro r w6 ⟨rfl, e1, e2⟩; have HT6 : Hid (Two B w6 qa B C qb C (Ua.getK yn) Ub (16 * k + 16) (16 * k)) := e1; have HB6 : Hid (Below B wr w6) := e2; clear e1 e2 hGa)
              clear x0 x1 x2
              obtain ⟨x0, x1, x2⟩ := HC1.out w6 (HI.out.bel.trans HB6.out)
              have hGb := HT6.out.callB (f := 7) (args := #[.pointer (some ⟨qb, 0, none⟩), .int .i64 yn]) (fun Xm h => sget h (by obtain ⟨Xa, Xb, h6⟩ := HT6.out; exact h6.hC) hc16 hin hspb)
              rw [HFb.out] at hGb
              go_upto_region 18 with (go_at_call 7; refine Calls.mono hGb ?_; rintro r w7 ⟨rfl, e1, e2⟩; have HT7 : Hid (Two B w7 qa B C qb C (Ua.getK yn) (Ub.getK yn) (16 * k + 16) (16 * k + 16)) := e1; have HB7 : Hid (Below B w6 w7) := e2; clear e1 e2 hGb)
              clear x0 x1 x2
              have HI7 : Hid (TwI w B qa B C qb C Y (k + 1) w7 (Ua.getK yn) (Ub.getK yn)) := HI.out.get HkY.out HT.out HT7.out (HB6.out.trans HB7.out)
              go_wp2
              go_roundw
              case rel => exact ⟨k + 1, hlt, h80, by go_num, _, _, HI7.out⟩
              case measure => simp [intOf]; omega
            · by_cases k6 : yk = 6
              · subst k6
                obtain ⟨x0, x1, x2⟩ := HC1.out wr HI.out.bel
                have hGa := HI.out.two.callA (f := 7) (args := #[.pointer (some ⟨qa, 0, none⟩), .int .i64 yn]) (fun Xm h => sget h HI.out.two.low hc16 hin hspa)
                obtain ⟨gs, ge, hfn⟩ : ∃ s e, fndV (Ua.f yn) = .tuple #[.string (str s), .int .i64 e] := ⟨_, _, rfl⟩
                rw [hfn] at hGa
                have HFb : Hid (fndV (Ub.f yn) = .tuple #[.string (str gs), .int .i64 ge]) := by show _ = _; rw [← HI.out.f]; exact hfn
                clear hfn
                go_upto_region 17 with (go_at_call 7; refine Calls.mono hGa ?_; rintro r w6 ⟨rfl, e1, e2⟩; have HT6 : Hid (Two B w6 qa B C qb C (Ua.getK yn) Ub (16 * k + 16) (16 * k)) := e1; have HB6 : Hid (Below B wr w6) := e2; clear e1 e2 hGa)
                clear x0 x1 x2
                obtain ⟨x0, x1, x2⟩ := HC1.out w6 (HI.out.bel.trans HB6.out)
                have hGb := HT6.out.callB (f := 7) (args := #[.pointer (some ⟨qb, 0, none⟩), .int .i64 yn]) (fun Xm h => sget h (by obtain ⟨Xa, Xb, h6⟩ := HT6.out; exact h6.hC) hc16 hin hspb)
                rw [HFb.out] at hGb
                go_upto_region 18 with (go_at_call 7; refine Calls.mono hGb ?_; rintro r w7 ⟨rfl, e1, e2⟩; have HT7 : Hid (Two B w7 qa B C qb C (Ua.getK yn) (Ub.getK yn) (16 * k + 16) (16 * k + 16)) := e1; have HB7 : Hid (Below B w6 w7) := e2; clear e1 e2 hGb)
                clear x0 x1 x2
                have HI7 : Hid (TwI w B qa B C qb C Y (k + 1) w7 (Ua.getK yn) (Ub.getK yn)) := HI.out.get HkY.out HT.out HT7.out (HB6.out.trans HB7.out)
                go_wp2
                go_roundw
                case rel => exact ⟨k + 1, hlt, h80, by go_num, _, _, HI7.out⟩
                case measure => simp [intOf]; omega
              · by_cases k7 : yk = 7
                · subst k7
                  clear k4 k5 k6
                  obtain ⟨x0, x1, x2⟩ := HC1.out wr HI.out.bel
                  go_upto_region 21 with (fail)
                  obtain ⟨Wd, hWd⟩ : ∃ Wd, wr.drew = Wd := ⟨_, rfl⟩
                  have bd : Below wr.heap.size wr Wd := by rw [← hWd]; exact Below.drew (Below.refl _ _)
                  have HBd : Hid (Below B wr Wd) := bd.mono HI.out.two.low
                  have HTd : Hid (Two B Wd qa B C qb C Ua Ub (16 * k) (16 * k)) := HI.out.two.new bd
                  have hS := (HC1.out Wd (HI.out.bel.trans HBd.out)).2
                  have HFe : Hid (Ua.f = Ub.f) := HI.out.f
                  have hDa := HTd.out.callA (f := 8) (args := #[.pointer (some ⟨qa, 0, none⟩), .int .i64 yn]) (fun Xm h => sdrop h HTd.out.low hc16 hin)
                  clear bd x0 x1 x2
                  refine wp_calmD ?_
                  refine wp_region_L [] (fun W : World => W.cell? ⟨b, off + k * 3 + 1, none⟩ = some (.int .i64 yn) ∧ W.cell? ⟨b, off + k * 3 + 2, none⟩ = some (.string (str ys))) (by kernel_rfl) ?_
                  rw [hWd]
                  clear hWd
                  refine wpAnyL_take (i := 0) 111 (v := .pointer (some ⟨qa, 0, none⟩)) rfl rfl (by kernel_rfl) (by kernel_rfl) (by kernel_rfl) (by kernel_rfl) (by kernel_rfl) (by kernel_rfl) (fun _ _ _ h => h) hS (by rfl) (by intro w' hSw; obtain ⟨y1, y2⟩ := hSw; go_simp <;> with_reducible rfl) ?_
                  simp only [Act.put, List.setIfInBounds_toArray, List.set_cons_zero, List.set_cons_succ]
                  refine wpAnyL_take (i := 1) 112 (v := .slice (some ⟨b, off, none⟩) n0 cap) rfl rfl (by kernel_rfl) (by kernel_rfl) (by kernel_rfl) (by kernel_rfl) (by kernel_rfl) (by kernel_rfl) (fun _ _ _ h => h) hS (by rfl) (by intro w' hSw; obtain ⟨y1, y2⟩ := hSw; go_simp <;> with_reducible rfl) ?_
                  simp only [Act.put, List.setIfInBounds_toArray, List.set_cons_zero, List.set_cons_succ]
                  refine wpAnyL_take (i := 2) 113 (v := .int .i64 k) rfl rfl (by kernel_rfl) (by kernel_rfl) (by kernel_rfl) (by kernel_rfl) (by kernel_rfl) (by kernel_rfl) (fun _ _ _ h => h) hS (by rfl) (by intro w' hSw; obtain ⟨y1, y2⟩ := hSw; go_simp <;> with_reducible rfl) ?_
                  simp only [Act.put, List.setIfInBounds_toArray, List.set_cons_zero, List.set_cons_succ]
                  refine wpAnyL_take (i := 3) 114 (v := .pointer (some ⟨b, off + k * 3, none⟩)) rfl rfl (by kernel_rfl) (by kernel_rfl) (by kernel_rfl) (by kernel_rfl) (by kernel_rfl) (by kernel_rfl) (fun _ _ _ h => h) hS (by rfl) (by intro w' hSw; obtain ⟨y1, y2⟩ := hSw; go_simp <;> with_reducible rfl) ?_
                  simp only [Act.put, List.setIfInBounds_toArray, List.set_cons_zero, List.set_cons_succ]
                  refine wpAnyL_take (i := 4) 115 (v := .pointer (some ⟨b, off + k * 3 + 1, none⟩)) rfl rfl (by kernel_rfl) (by kernel_rfl) (by kernel_rfl) (by kernel_rfl) (by kernel_rfl) (by kernel_rfl) (fun _ _ _ h => h) hS (by rfl) (by intro w' hSw; obtain ⟨y1, y2⟩ := hSw; go_simp <;> with_reducible rfl) ?_
                  simp only [Act.put, List.setIfInBounds_toArray, List.set_cons_zero, List.set_cons_succ]
                  refine wpAnyL_take (i := 5) 116 (v := .int .i64 yn) rfl rfl (by kernel_rfl) (by kernel_rfl) (by kernel_rfl) (by kernel_rfl) (by kernel_rfl) (by kernel_rfl) (fun _ _ _ h => h) hS (by rfl) (by intro w' hSw; obtain ⟨y1, y2⟩ := hSw; go_simp <;> with_reducible rfl) ?_
                  simp only [Act.put, List.setIfInBounds_toArray, List.set_cons_zero, List.set_cons_succ]
                  refine wpAnyL_take (i := 7) 118 (v := .pointer (some ⟨qb, 0, none⟩)) rfl rfl (by kernel_rfl) (by kernel_rfl) (by kernel_rfl) (by kernel_rfl) (by kernel_rfl) (by kernel_rfl) (fun _ _ _ h => h) hS (by rfl) (by intro w' hSw; obtain ⟨y1, y2⟩ := hSw; go_simp <;> with_reducible rfl) ?_
                  simp only [Act.put, List.setIfInBounds_toArray, List.set_cons_zero, List.set_cons_succ]
                  refine wpAnyL_take (i := 8) 119 (v := .slice (some ⟨b, off, none⟩) n0 cap) rfl rfl (by kernel_rfl) (by kernel_rfl) (by kernel_rfl) (by kernel_rfl) (by kernel_rfl) (by kernel_rfl) (fun _ _ _ h => h) hS (by rfl) (by intro w' hSw; obtain ⟨y1, y2⟩ := hSw; go_simp <;> with_reducible rfl) ?_
                  simp only [Act.put, List.setIfInBounds_toArray, List.set_cons_zero, List.set_cons_succ]
                  refine wpAnyL_take (i := 9) 120 (v := .int .i64 k) rfl rfl (by kernel_rfl) (by kernel_rfl) (by kernel_rfl) (by kernel_rfl) (by kernel_rfl) (by kernel_rfl) (fun _ _ _ h => h) hS (by rfl) (by intro w' hSw; obtain ⟨y1, y2⟩ := hSw; go_simp <;> with_reducible rfl) ?_
                  simp only [Act.put, List.setIfInBounds_toArray, List.set_cons_zero, List.set_cons_succ]
                  refine wpAnyL_take (i := 10) 121 (v := .pointer (some ⟨b, off + k * 3, none⟩)) rfl rfl (by kernel_rfl) (by kernel_rfl) (by kernel_rfl) (by kernel_rfl) (by kernel_rfl) (by kernel_rfl) (fun _ _ _ h => h) hS (by rfl) (by intro w' hSw; obtain ⟨y1, y2⟩ := hSw; go_simp <;> with_reducible rfl) ?_
                  simp only [Act.put, List.setIfInBounds_toArray, List.set_cons_zero, List.set_cons_succ]
                  refine wpAnyL_take (i := 11) 122 (v := .pointer (some ⟨b, off + k * 3 + 1, none⟩)) rfl rfl (by kernel_rfl) (by kernel_rfl) (by kernel_rfl) (by kernel_rfl) (by kernel_rfl) (by kernel_rfl) (fun _ _ _ h => h) hS (by rfl) (by intro w' hSw; obtain ⟨y1, y2⟩ := hSw; go_simp <;> with_reducible rfl) ?_
                  simp only [Act.put, List.setIfInBounds_toArray, List.set_cons_zero, List.set_cons_succ]
                  refine wpAnyL_take (i := 12) 123 (v := .int .i64 yn) rfl rfl (by kernel_rfl) (by kernel_rfl) (by kernel_rfl) (by kernel_rfl) (by kernel_rfl) (by kernel_rfl) (fun _ _ _ h => h) hS (by rfl) (by intro w' hSw; obtain ⟨y1, y2⟩ := hSw; go_simp <;> with_reducible rfl) ?_
                  simp only [Act.put, List.setIfInBounds_toArray, List.set_cons_zero, List.set_cons_succ]
                  obtain ⟨dd, hdd⟩ : ∃ dd, (Ua.f yn).isSome = dd := ⟨_, rfl⟩
                  rw [hdd] at hDa
                  have HDd : Hid ((Ub.f yn).isSome = dd) := by show _ = _; rw [← HFe.out]; exact hdd
                  clear hdd
                  refine wpAnyL_one (i := 6) (by kernel_rfl) rfl (fun Ka hKa => ?_)
                  go_simp
                  refine Calls.mono hDa ?_
                  rintro r w6 ⟨rfl, e1, e2⟩
                  have HT6 : Hid (Two B w6 qa B C qb C (Ua.dropK yn) Ub (16 * k + 16) (16 * k)) := e1
                  have HB6 : Hid (Below B wr w6) := HBd.out.trans e2
                  have hS6 := (HC1.out w6 (HI.out.bel.trans HB6.out)).2
                  refine hKa.out _ _ (fun _ => hS6) ?_
                  clear hKa Ka e1 e2 hDa hS
                  try simp only [Act.put, List.setIfInBounds_toArray, List.set_cons_zero, List.set_cons_succ]
                  have hDb := HT6.out.callB (f := 8) (args := #[.pointer (some ⟨qb, 0, none⟩), .int .i64 yn]) (fun Xm h => sdrop h (by obtain ⟨Xa, Xb, h6⟩ := HT6.out; exact h6.hC) hc16 hin)
                  rw [HDd.out] at hDb
                  refine wpAnyL_one (i := 13) (by kernel_rfl) rfl (fun Ka hKa => ?_)
                  go_simp
                  refine Calls.mono hDb ?_
                  rintro r w7 ⟨rfl, e1, e2⟩
                  have HT7 : Hid (Two B w7 qa B C qb C (Ua.dropK yn) (Ub.dropK yn) (16 * k + 16) (16 * k + 16)) := e1
                  have HB7 : Hid (Below B wr w7) := HB6.out.trans e2
                  have hS7 := (HC1.out w7 (HI.out.bel.trans HB7.out)).2
                  refine hKa.out _ _ (fun _ => hS7) ?_
                  clear hKa Ka e1 e2 hDb hS6
                  try simp only [Act.put, List.setIfInBounds_toArray, List.set_cons_zero, List.set_cons_succ]
                  refine wpAnyL_take (i := 14) 125 (v := .bool false) rfl rfl (by kernel_rfl) (by kernel_rfl) (by kernel_rfl) (by kernel_rfl) (by kernel_rfl) (by kernel_rfl) (fun _ _ _ h => h) hS7 (by rfl) (by intro w' hSw; obtain ⟨y1, y2⟩ := hSw; go_simp <;> with_reducible rfl) ?_
                  simp only [Act.put, List.setIfInBounds_toArray, List.set_cons_zero, List.set_cons_succ]
                  refine wpAnyL_done (by kernel_rfl) ?_ _
                  clear hS7
                  have HI7 : Hid (TwI w B qa B C qb C Y (k + 1) w7 (Ua.dropK yn) (Ub.dropK yn)) := HI.out.drop HkY.out HT7.out HB7.out
                  go_wp2
                  go_roundw
                  case rel => exact ⟨k + 1, hlt, h80, by go_num, _, _, HI7.out⟩
                  case measure => simp [intOf]; omega
                · obtain ⟨x0, x1, x2⟩ := HC1.out wr HI.out.bel
                  go_upto_region 11 with (fail)
                  obtain ⟨Wd, hWd⟩ : ∃ Wd, wr.drew = Wd := ⟨_, rfl⟩
                  have bd : Below wr.heap.size wr Wd := by rw [← hWd]; exact Below.drew (Below.refl _ _)
                  have HBd : Hid (Below B wr Wd) := bd.mono HI.out.two.low
                  have HTd : Hid (Two B Wd qa B C qb C Ua Ub (16 * k) (16 * k)) := HI.out.two.new bd
                  have hS := (HC1.out Wd (HI.out.bel.trans HBd.out)).2
                  have HFe : Hid (Ua.f = Ub.f) := HI.out.f
                  have hDa := HTd.out.callA (f := 9) (args := #[.pointer (some ⟨qa, 0, none⟩), .int .i64 yn, .string (str ys)]) (fun Xm h => sput h HTd.out.low hc16 hsl hspa)
                  clear bd x0 x1 x2
                  refine wp_calmD ?_
                  refine wp_region_L [] (fun W : World => W.cell? ⟨b, off + k * 3 + 1, none⟩ = some (.int .i64 yn) ∧ W.cell? ⟨b, off + k * 3 + 2, none⟩ = some (.string (str ys))) (by kernel_rfl) ?_
                  rw [hWd]
                  clear hWd
                  refine wpAnyL_take (i := 0) 52 (v := .pointer (some ⟨qa, 0, none⟩)) rfl rfl (by kernel_rfl) (by kernel_rfl) (by kernel_rfl) (by kernel_rfl) (by kernel_rfl) (by kernel_rfl) (fun _ _ _ h => h) hS (by rfl) (by intro w' hSw; obtain ⟨y1, y2⟩ := hSw; go_simp <;> with_reducible rfl) ?_
                  simp only [Act.put, List.setIfInBounds_toArray, List.set_cons_zero, List.set_cons_succ]
                  refine wpAnyL_take (i := 1) 53 (v := .slice (some ⟨b, off, none⟩) n0 cap) rfl rfl (by kernel_rfl) (by kernel_rfl) (by kernel_rfl) (by kernel_rfl) (by kernel_rfl) (by kernel_rfl) (fun _ _ _ h => h) hS (by rfl) (by intro w' hSw; obtain ⟨y1, y2⟩ := hSw; go_simp <;> with_reducible rfl) ?_
                  simp only [Act.put, List.setIfInBounds_toArray, List.set_cons_zero, List.set_cons_succ]
                  refine wpAnyL_take (i := 2) 54 (v := .int .i64 k) rfl rfl (by kernel_rfl) (by kernel_rfl) (by kernel_rfl) (by kernel_rfl) (by kernel_rfl) (by kernel_rfl) (fun _ _ _ h => h) hS (by rfl) (by intro w' hSw; obtain ⟨y1, y2⟩ := hSw; go_simp <;> with_reducible rfl) ?_
                  simp only [Act.put, List.setIfInBounds_toArray, List.set_cons_zero, List.set_cons_succ]
                  refine wpAnyL_take (i := 3) 55 (v := .pointer (some ⟨b, off + k * 3, none⟩)) rfl rfl (by kernel_rfl) (by kernel_rfl) (by kernel_rfl) (by kernel_rfl) (by kernel_rfl) (by kernel_rfl) (fun _ _ _ h => h) hS (by rfl) (by intro w' hSw; obtain ⟨y1, y2⟩ := hSw; go_simp <;> with_reducible rfl) ?_
                  simp only [Act.put, List.setIfInBounds_toArray, List.set_cons_zero, List.set_cons_succ]
                  refine wpAnyL_take (i := 4) 56 (v := .pointer (some ⟨b, off + k * 3 + 1, none⟩)) rfl rfl (by kernel_rfl) (by kernel_rfl) (by kernel_rfl) (by kernel_rfl) (by kernel_rfl) (by kernel_rfl) (fun _ _ _ h => h) hS (by rfl) (by intro w' hSw; obtain ⟨y1, y2⟩ := hSw; go_simp <;> with_reducible rfl) ?_
                  simp only [Act.put, List.setIfInBounds_toArray, List.set_cons_zero, List.set_cons_succ]
                  refine wpAnyL_take (i := 5) 57 (v := .int .i64 yn) rfl rfl (by kernel_rfl) (by kernel_rfl) (by kernel_rfl) (by kernel_rfl) (by kernel_rfl) (by kernel_rfl) (fun _ _ _ h => h) hS (by rfl) (by intro w' hSw; obtain ⟨y1, y2⟩ := hSw; go_simp <;> with_reducible rfl) ?_
                  simp only [Act.put, List.setIfInBounds_toArray, List.set_cons_zero, List.set_cons_succ]
                  refine wpAnyL_take (i := 6) 58 (v := .slice (some ⟨b, off, none⟩) n0 cap) rfl rfl (by kernel_rfl) (by kernel_rfl) (by kernel_rfl) (by kernel_rfl) (by kernel_rfl) (by kernel_rfl) (fun _ _ _ h => h) hS (by rfl) (by intro w' hSw; obtain ⟨y1, y2⟩ := hSw; go_simp <;> with_reducible rfl) ?_
                  simp only [Act.put, List.setIfInBounds_toArray, List.set_cons_zero, List.set_cons_succ]
                  refine wpAnyL_take (i := 7) 59 (v := .int .i64 k) rfl rfl (by kernel_rfl) (by kernel_rfl) (by kernel_rfl) (by kernel_rfl) (by kernel_rfl) (by kernel_rfl) (fun _ _ _ h => h) hS (by rfl) (by intro w' hSw; obtain ⟨y1, y2⟩ := hSw; go_simp <;> with_reducible rfl) ?_
                  simp only [Act.put, List.setIfInBounds_toArray, List.set_cons_zero, List.set_cons_succ]
                  refine wpAnyL_take (i := 8) 60 (v := .pointer (some ⟨b, off + k * 3, none⟩)) rfl rfl (by kernel_rfl) (by kernel_rfl) (by kernel_rfl) (by kernel_rfl) (by kernel_rfl) (by kernel_rfl) (fun _ _ _ h => h) hS (by rfl) (by intro w' hSw; obtain ⟨y1, y2⟩ := hSw; go_simp <;> with_reducible rfl) ?_
                  simp only [Act.put, List.setIfInBounds_toArray, List.set_cons_zero, List.set_cons_succ]
                  refine wpAnyL_take (i := 9) 61 (v := .pointer (some ⟨b, off + k * 3 + 2, none⟩)) rfl rfl (by kernel_rfl) (by kernel_rfl) (by kernel_rfl) (by kernel_rfl) (by kernel_rfl) (by kernel_rfl) (fun _ _ _ h => h) hS (by rfl) (by intro w' hSw; obtain ⟨y1, y2⟩ := hSw; go_simp <;> with_reducible rfl) ?_
                  simp only [Act.put, List.setIfInBounds_toArray, List.set_cons_zero, List.set_cons_succ]
                  refine wpAnyL_take (i := 10) 62 (v := .string (str ys)) rfl rfl (by kernel_rfl) (by kernel_rfl) (by kernel_rfl) (by kernel_rfl) (by kernel_rfl) (by kernel_rfl) (fun _ _ _ h => h) hS (by rfl) (by intro w' hSw; obtain ⟨y1, y2⟩ := hSw; go_simp <;> with_reducible rfl) ?_
                  simp only [Act.put, List.setIfInBounds_toArray, List.set_cons_zero, List.set_cons_succ]
                  refine wpAnyL_take (i := 12) 64 (v := .pointer (some ⟨qb, 0, none⟩)) rfl rfl (by kernel_rfl) (by kernel_rfl) (by kernel_rfl) (by kernel_rfl) (by kernel_rfl) (by kernel_rfl) (fun _ _ _ h => h) hS (by rfl) (by intro w' hSw; obtain ⟨y1, y2⟩ := hSw; go_simp <;> with_reducible rfl) ?_
                  simp only [Act.put, List.setIfInBounds_toArray, List.set_cons_zero, List.set_cons_succ]
                  refine wpAnyL_take (i := 13) 65 (v := .slice (some ⟨b, off, none⟩) n0 cap) rfl rfl (by kernel_rfl) (by kernel_rfl) (by kernel_rfl) (by kernel_rfl) (by kernel_rfl) (by kernel_rfl) (fun _ _ _ h => h) hS (by rfl) (by intro w' hSw; obtain ⟨y1, y2⟩ := hSw; go_simp <;> with_reducible rfl) ?_
                  simp only [Act.put, List.setIfInBounds_toArray, List.set_cons_zero, List.set_cons_succ]
                  refine wpAnyL_take (i := 14) 66 (v := .int .i64 k) rfl rfl (by kernel_rfl) (by kernel_rfl) (by kernel_rfl) (by kernel_rfl) (by kernel_rfl) (by kernel_rfl) (fun _ _ _ h => h) hS (by rfl) (by intro w' hSw; obtain ⟨y1, y2⟩ := hSw; go_simp <;> with_reducible rfl) ?_
                  simp only [Act.put, List.setIfInBounds_toArray, List.set_cons_zero, List.set_cons_succ]
                  refine wpAnyL_take (i := 15) 67 (v := .pointer (some ⟨b, off + k * 3, none⟩)) rfl rfl (by kernel_rfl) (by kernel_rfl) (by kernel_rfl) (by kernel_rfl) (by kernel_rfl) (by kernel_rfl) (fun _ _ _ h => h) hS (by rfl) (by intro w' hSw; obtain ⟨y1, y2⟩ := hSw; go_simp <;> with_reducible rfl) ?_
                  simp only [Act.put, List.setIfInBounds_toArray, List.set_cons_zero, List.set_cons_succ]
                  refine wpAnyL_take (i := 16) 68 (v := .pointer (some ⟨b, off + k * 3 + 1, none⟩)) rfl rfl (by kernel_rfl) (by kernel_rfl) (by kernel_rfl) (by kernel_rfl) (by kernel_rfl) (by kernel_rfl) (fun _ _ _ h => h) hS (by rfl) (by intro w' hSw; obtain ⟨y1, y2⟩ := hSw; go_simp <;> with_reducible rfl) ?_
                  simp only [Act.put, List.setIfInBounds_toArray, List.set_cons_zero, List.set_cons_succ]
                  refine wpAnyL_take (i := 17) 69 (v := .int .i64 yn) rfl rfl (by kernel_rfl) (by kernel_rfl) (by kernel_rfl) (by kernel_rfl) (by kernel_rfl) (by kernel_rfl) (fun _ _ _ h => h) hS (by rfl) (by intro w' hSw; obtain ⟨y1, y2⟩ := hSw; go_simp <;> with_reducible rfl) ?_
                  simp only [Act.put, List.setIfInBounds_toArray, List.set_cons_zero, List.set_cons_succ]
                  refine wpAnyL_take (i := 18) 70 (v := .slice (some ⟨b, off, none⟩) n0 cap) rfl rfl (by kernel_rfl) (by kernel_rfl) (by kernel_rfl) (by kernel_rfl) (by kernel_rfl) (by kernel_rfl) (fun _ _ _ h => h) hS (by rfl) (by intro w' hSw; obtain ⟨y1, y2⟩ := hSw; go_simp <;> with_reducible rfl) ?_
                  simp only [Act.put, List.setIfInBounds_toArray, List.set_cons_zero, List.set_cons_succ]
                  refine wpAnyL_take (i := 19) 71 (v := .int .i64 k) rfl rfl (by kernel_rfl) (by kernel_rfl) (by kernel_rfl) (by kernel_rfl) (by kernel_rfl) (by kernel_rfl) (fun _ _ _ h => h) hS (by rfl) (by intro w' hSw; obtain ⟨y1, y2⟩ := hSw; go_simp <;> with_reducible rfl) ?_
                  simp only [Act.put, List.setIfInBounds_toArray, List.set_cons_zero, List.set_cons_succ]
                  refine wpAnyL_take (i := 20) 72 (v := .pointer (some ⟨b, off + k * 3, none⟩)) rfl rfl (by kernel_rfl) (by kernel_rfl) (by kernel_rfl) (by kernel_rfl) (by kernel_rfl) (by kernel_rfl) (fun _ _ _ h => h) hS (by rfl) (by intro w' hSw; obtain ⟨y1, y2⟩ := hSw; go_simp <;> with_reducible rfl) ?_
                  simp only [Act.put, List.setIfInBounds_toArray, List.set_cons_zero, List.set_cons_succ]
                  refine wpAnyL_take (i := 21) 73 (v := .pointer (some ⟨b, off + k * 3 + 2, none⟩)) rfl rfl (by kernel_rfl) (by kernel_rfl) (by kernel_rfl) (by kernel_rfl) (by kernel_rfl) (by kernel_rfl) (fun _ _ _ h => h) hS (by rfl) (by intro w' hSw; obtain ⟨y1, y2⟩ := hSw; go_simp <;> with_reducible rfl) ?_
                  simp only [Act.put, List.setIfInBounds_toArray, List.set_cons_zero, List.set_cons_succ]
                  refine wpAnyL_take (i := 22) 74 (v := .string (str ys)) rfl rfl (by kernel_rfl) (by kernel_rfl) (by kernel_rfl) (by kernel_rfl) (by kernel_rfl) (by kernel_rfl) (fun _ _ _ h => h) hS (by rfl) (by intro w' hSw; obtain ⟨y1, y2⟩ := hSw; go_simp <;> with_reducible rfl) ?_
                  simp only [Act.put, List.setIfInBounds_toArray, List.set_cons_zero, List.set_cons_succ]
                  obtain ⟨er, her⟩ : ∃ er : Int, (if okN yn = true then (0 : Int) else 1) = er := ⟨_, rfl⟩
                  have HEr : Hid ((if okN yn = true then (0 : Int) else 1) = er) := her
                  rw [her] at hDa
                  clear her
                  refine wpAnyL_one (i := 11) (by kernel_rfl) rfl (fun Ka hKa => ?_)
                  go_simp
                  refine Calls.mono hDa ?_
                  rintro r w6 ⟨rfl, e1, e2⟩
                  have HT6 : Hid (Two B w6 qa B C qb C (Ua.putK yn ys) Ub (16 * k + 16) (16 * k)) := e1
                  have HB6 : Hid (Below B wr w6) := HBd.out.trans e2
                  have hS6 := (HC1.out w6 (HI.out.bel.trans HB6.out)).2
                  refine hKa.out _ _ (fun _ => hS6) ?_
                  clear hKa Ka e1 e2 hDa hS
                  try simp only [Act.put, List.setIfInBounds_toArray, List.set_cons_zero, List.set_cons_succ]
                  have hDb := HT6.out.callB (f := 9) (args := #[.pointer (some ⟨qb, 0, none⟩), .int .i64 yn, .string (str ys)]) (fun Xm h => sput h (by obtain ⟨Xa, Xb, h6⟩ := HT6.out; exact h6.hC) hc16 hsl hspb)
                  rw [HEr.out] at hDb
                  refine wpAnyL_one (i := 23) (by kernel_rfl) rfl (fun Ka hKa => ?_)
                  go_simp
                  refine Calls.mono hDb ?_
                  rintro r w7 ⟨rfl, e1, e2⟩
                  have HT7 : Hid (Two B w7 qa B C qb C (Ua.putK yn ys) (Ub.putK yn ys) (16 * k + 16) (16 * k + 16)) := e1
                  have HB7 : Hid (Below B wr w7) := HB6.out.trans e2
                  have hS7 := (HC1.out w7 (HI.out.bel.trans HB7.out)).2
                  refine hKa.out _ _ (fun _ => hS7) ?_
                  clear hKa Ka e1 e2 hDb hS6
                  try simp only [Act.put, List.setIfInBounds_toArray, List.set_cons_zero, List.set_cons_succ]
                  refine wpAnyL_take (i := 24) 76 (v := .bool false) rfl rfl (by kernel_rfl) (by kernel_rfl) (by kernel_rfl) (by kernel_rfl) (by kernel_rfl) (by kernel_rfl) (fun _ _ _ h => h) hS7 (by rfl) (by intro w' hSw; obtain ⟨y1, y2⟩ := hSw; go_simp <;> with_reducible rfl) ?_
                  simp only [Act.put, List.setIfInBounds_toArray, List.set_cons_zero, List.set_cons_succ]
                  refine wpAnyL_done (by kernel_rfl) ?_ _
                  clear hS7
                  have HI7 : Hid (TwI w B qa B C qb C Y (k + 1) w7 (Ua.putK yn ys) (Ub.putK yn ys)) := HPut.out w7 yn HT7.out HB7.out
                  go_wp2
                  go_roundw
                  case rel => exact ⟨k + 1, hlt, h80, by go_num, _, _, HI7.out⟩
                  case measure => simp [intOf]; omega
        · have hSp : Calls Tryd.prog 10 #[.pointer (some ⟨qb, 0, none⟩)] wr fun r w' => r = .returned (.int .i64 0) ∧ w' = wr := by
            obtain ⟨Xa, Xb, h⟩ := HI.out.two
            have := sspills h.b
            rw [HI.out.sp] at this
            exact this
          go_wp2_with (go_at_call 10; refine Calls.mono hSp ?_; rintro r w6 ⟨rfl, hw6⟩; rw [hw6]; clear hw6)
          go_ret
          rw [HBw.out]
          exact ⟨rfl, HI.out.bel⟩
      · have hSp : Calls Tryd.prog 10 #[.pointer (some ⟨qb, 0, none⟩)] wr fun r w' => r = .returned (.int .i64 0) ∧ w' = wr := by
          obtain ⟨Xa, Xb, h⟩ := HI.out.two
          have := sspills h.b
          rw [HI.out.sp] at this
          exact this
        go_wp2_with (go_at_call 10; refine Calls.mono hSp ?_; rintro r w6 ⟨rfl, hw6⟩; rw [hw6]; clear hw6)
        go_ret
        rw [HBw.out]
        exact ⟨rfl, HI.out.bel⟩
  · have h0 : 0 ≤ bud := by omega
    go_enter Tryd.func3, Tryd.ntmps3
    go_upto_region 3 with (fail)
    go_upto_region 4 with (first
      | (go_at_call 5; refine Calls.mono hN ?_; rintro r w1 ⟨rfl, e1, e2⟩; have HB1 : Hid (Below w.heap.size w w1) := e2; have hNw := snew_ok (Xm := fun _ => False) (w := w1) (B := w.heap.size) (p := w.heap.size) (bud := bud) ⟨_, _, _, e1⟩ e2.size h0 hb; clear e1 e2 hN)
      | (go_at_call 4; refine Calls.mono hNw ?_; rintro r w2 ⟨rfl, e1, e2⟩; have HA2 : Hid (SA (fun _ => False) w2 w.heap.size w1.heap.size w.heap.size (St.new bud) 0) := e1; have HB2 : Hid (Below w1.heap.size w1 w2) := e2; clear e1 e2 hNw))
    have HS2 : Hid (w.heap.size ≤ w2.heap.size) := Nat.le_trans HB1.out.size HB2.out.size
    have hN2 := st_newdisk w2
    go_upto_region 5 with (first
      | (go_at_call 5; refine Calls.mono hN2 ?_; rintro r w3 ⟨rfl, e1, e2⟩; have HB3 : Hid (Below w2.heap.size w2 w3) := e2; have hNw2 := snew_ok (Xm := fun k => k < w2.heap.size) (w := w3) (B := w2.heap.size) (p := w2.heap.size) (bud := 1073741824) e1 e2.size (by decide) (by decide); clear e1 e2 hN2)
      | (go_at_call 4; refine Calls.mono hNw2 ?_; rintro r w4 ⟨rfl, e1, e2⟩; have HA4 : Hid (SA (fun k => k < w2.heap.size) w4 w2.heap.size w3.heap.size w2.heap.size (St.new 1073741824) 0) := e1; have HB4 : Hid (Below w3.heap.size w3 w4) := e2; clear e1 e2 hNw2))
    have HTw : Hid (Two w.heap.size w4 w1.heap.size w.heap.size w2.heap.size w3.heap.size w2.heap.size (St.new bud) (St.new 1073741824) 0 0) := Two.made HA2.out HS2.out HB3.out HA4.out HB4.out
    have HBl : Hid (Below w.heap.size w w4) := ((HB1.out.trans (HB2.out.mono HB1.out.size)).trans (HB3.out.mono HS2.out)).trans (HB4.out.mono (Nat.le_trans HS2.out HB3.out.size))
    clear HA2 HS2 HB3 HA4 HB4 HB1 HB2
    obtain ⟨B, hB⟩ : ∃ B, w.heap.size = B := ⟨_, rfl⟩
    rw [hB] at HTw HBl ⊢
    generalize w1.heap.size = qa at HTw ⊢
    generalize w2.heap.size = C at HTw ⊢
    generalize w3.heap.size = qb at HTw ⊢
    have hAw := awake19 w4
    go_upto_region 7 with (go_at_call 6; refine Calls.mono hAw ?_; rintro r w5 ⟨rfl, e1⟩; have HB5 : Hid (Below w4.heap.size w4 w5) := e1; clear e1 hAw)
    have HI0 : Hid (TwI w B qa B C qb C Y 0 w5 (St.new bud) (St.new 1073741824)) := ⟨HTw.out.new HB5.out, rfl, rfl, rfl, by show totL noneO nums ≤ _; rw [totL_none]; exact Nat.zero_le _, Nat.zero_le _, HBl.out.trans (HB5.out.mono HTw.out.low)⟩
    have HBw : Hid (w.heap.size = B) := hB
    clear HTw HBl HB5 hB
    go_wp2
    go_loopw [9] (fun i wr => ∃ k : Nat, k ≤ n0 ∧ k ≤ 80 ∧ i = .int .i64 k ∧ ∃ Ua Ub, TwI w B qa B C qb C Y k wr Ua Ub) (fun i _ => 80 - (intOf i).toNat)
    case atStart => exact ⟨0, Nat.zero_le _, Nat.zero_le _, rfl, _, _, HI0.out⟩
    case round =>
      obtain ⟨k, hk, hk80, rfl, Ua, Ub, hi⟩ := hrel
      have HI : Hid (TwI w B qa B C qb C Y k wr Ua Ub) := hi
      clear hi
      by_cases hlt : k < n0
      · by_cases h80 : k < 80
        · have hkY : k < Y.length := by have := HNn.out; omega
          have HkY : Hid (k < Y.length) := hkY
          obtain ⟨b, off, rfl, hcs⟩ := HA.out (by omega)
          obtain ⟨x0, x1, x2, hin, hsl⟩ := hcs k hkY
          have hbB : b < B := by rw [← HBw.out]; exact World.block_lt_of_cell? w _ x0
          have hrow : ∃ y : Sct, (∀ W, Below B w W → W.cell? ⟨b, off + k * 3, none⟩ = some (.int .i64 y.k) ∧ W.cell? ⟨b, off + k * 3 + 1, none⟩ = some (.int .i64 y.n) ∧ W.cell? ⟨b, off + k * 3 + 2, none⟩ = some (.string (str y.s))) ∧ (∀ wr' (n : Int), Two B wr' qa B C qb C (Ua.putK n y.s) (Ub.putK n y.s) (16 * k + 16) (16 * k + 16) → Below B wr wr' → TwI w B qa B C qb C Y (k + 1) wr' (Ua.putK n y.s) (Ub.putK n y.s)) ∧ I6 y.n ∧ y.s.length ≤ 140737488351232 :=
            ⟨Y[k]'hkY, fun W hW => ⟨(hW.cell (p := ⟨b, off + k * 3, none⟩) hbB).trans x0, (hW.cell (p := ⟨b, off + k * 3 + 1, none⟩) hbB).trans x1, (hW.cell (p := ⟨b, off + k * 3 + 2, none⟩) hbB).trans x2⟩, fun wr' n h2 hb => HI.out.put hkY rfl HT.out h2 hb, hin, hsl⟩
          have hc16 : 16 * k ≤ 900000 := by omega
          have hspa : Ua.sp ≤ 1000000 := by have := HI.out.spa; omega
          have hspb : Ub.sp ≤ 1000000 := by rw [HI.out.sp]; omega
          clear hkY hcs x0 x1 x2 hin hsl
          obtain ⟨⟨yk, yn, ys⟩, hcs, hput, hin, hsl⟩ := hrow
          have HC1 : Hid (∀ W, Below B w W → W.cell? ⟨b, off + k * 3, none⟩ = some (.int .i64 yk) ∧ W.cell? ⟨b, off + k * 3 + 1, none⟩ = some (.int .i64 yn) ∧ W.cell? ⟨b, off + k * 3 + 2, none⟩ = some (.string (str ys))) := hcs
          have HPut : Hid (∀ wr' (n : Int), Two B wr' qa B C qb C (Ua.putK n ys) (Ub.putK n ys) (16 * k + 16) (16 * k + 16) → Below B wr wr' → TwI w B qa B C qb C Y (k + 1) wr' (Ua.putK n ys) (Ub.putK n ys)) := hput
          simp only at hin hsl
          clear hcs hput
          by_cases k4 : yk = 4
          · subst k4
            obtain ⟨x0, x1, x2⟩ := HC1.out wr HI.out.bel
            have hGa := HI.out.two.callA (f := 7) (args := #[.pointer (some ⟨qa, 0, none⟩), .int .i64 yn]) (fun Xm h => sget h HI.out.two.low hc16 hin hspa)
            obtain ⟨gs, ge, hfn⟩ : ∃ s e, fndV (Ua.f yn) = .tuple #[.string (str s), .int .i64 e] := ⟨_, _, rfl⟩
            rw [hfn] at hGa
            have HFb : Hid (fndV (Ub.f yn) = .tuple #[.string (str gs), .int .i64 ge]) := by show _ = _; rw [← HI.out.f]; exact hfn
            clear hfn
            go_upto_region 17 with (go_at_call 7; refine Calls.mono hGa ?_; rintro r w6 ⟨rfl, e1, e2⟩; have HT6 : Hid (Two B w6 qa B C qb C (Ua.getK yn) Ub (16 * k + 16) (16 * k)) := e1; have HB6 : Hid (Below B wr w6) := e2; clear e1 e2 hGa)
            clear x0 x1 x2
            obtain ⟨x0, x1, x2⟩ := HC1.out w6 (HI.out.bel.trans HB6.out)
            have hGb := HT6.out.callB (f := 7) (args := #[.pointer (some ⟨qb, 0, none⟩), .int .i64 yn]) (fun Xm h => sget h (by obtain ⟨Xa, Xb, h6⟩ := HT6.out; exact h6.hC) hc16 hin hspb)
            rw [HFb.out] at hGb
            go_upto_region 18 with (go_at_call 7; refine Calls.mono hGb ?_; rintro r w7 ⟨rfl, e1, e2⟩; have HT7 : Hid (Two B w7 qa B C qb C (Ua.getK yn) (Ub.getK yn) (16 * k + 16) (16 * k + 16)) := e1; have HB7 : Hid (Below B w6 w7) := e2; clear e1 e2 hGb)
            clear x0 x1 x2
            have HI7 : Hid (TwI w B qa B C qb C Y (k + 1) w7 (Ua.getK yn) (Ub.getK yn)) := HI.out.get HkY.out HT.out HT7.out (HB6.out.trans HB7.out)
            go_wp2
            go_roundw
            case rel => exact ⟨k + 1, hlt, h80, by go_num, _, _, HI7.out⟩
            case measure => simp [intOf]; omega
          · by_cases k5 : yk = 5
            · subst k5
              obtain ⟨x0, x1, x2⟩ := HC1.out wr HI.out.bel
              have hGa := HI.out.two.callA (f := 7) (args := #[.pointer (some ⟨qa, 0, none⟩), .int .i64 yn]) (fun Xm h => sget h HI.out.two.low hc16 hin hspa)
              obtain ⟨gs, ge, hfn⟩ : ∃ s e, fndV (Ua.f yn) = .tuple #[.string (str s), .int .i64 e] := ⟨_, _, rfl⟩
              rw [hfn] at hGa
              have HFb : Hid (fndV (Ub.f yn) = .tuple #[.string (str gs), .int .i64 ge]) := by show _ = _; rw [← HI.out.f]; exact hfn
              clear hfn
              go_upto_region 17 with (go_at_call 7; refine Calls.mono hGa ?_; rintro r w6 ⟨rfl, e1, e2⟩; have HT6 : Hid (Two B w6 qa B C qb C (Ua.getK yn) Ub (16 * k + 16) (16 * k)) := e1; have HB6 : Hid (Below B wr w6) := e2; clear e1 e2 hGa)
              clear x0 x1 x2
              obtain ⟨x0, x1, x2⟩ := HC1.out w6 (HI.out.bel.trans HB6.out)
              have hGb := HT6.out.callB (f := 7) (args := #[.pointer (some ⟨qb, 0, none⟩), .int .i64 yn]) (fun Xm h => sget h (by obtain ⟨Xa, Xb, h6⟩ := HT6.out; exact h6.hC) hc16 hin hspb)
              rw [HFb.out] at hGb
              go_upto_region 18 with (go_at_call 7; refine Calls.mono hGb ?_; rintro r w7 ⟨rfl, e1, e2⟩; have HT7 : Hid (Two B w7 qa B C qb C (Ua.getK yn) (Ub.getK yn) (16 * k + 16) (16 * k + 16)) := e1; have HB7 : Hid (Below B w6 w7) := e2; clear e1 e2 hGb)
              clear x0 x1 x2
              have HI7 : Hid (TwI w B qa B C qb C Y (k + 1) w7 (Ua.getK yn) (Ub.getK yn)) := HI.out.get HkY.out HT.out HT7.out (HB6.out.trans HB7.out)
              go_wp2
              go_roundw
              case rel => exact ⟨k + 1, hlt, h80, by go_num, _, _, HI7.out⟩
              case measure => simp [intOf]; omega
            · by_cases k6 : yk = 6
              · subst k6
                obtain ⟨x0, x1, x2⟩ := HC1.out wr HI.out.bel
                have hGa := HI.out.two.callA (f := 7) (args := #[.pointer (some ⟨qa, 0, none⟩), .int .i64 yn]) (fun Xm h => sget h HI.out.two.low hc16 hin hspa)
                obtain ⟨gs, ge, hfn⟩ : ∃ s e, fndV (Ua.f yn) = .tuple #[.string (str s), .int .i64 e] := ⟨_, _, rfl⟩
                rw [hfn] at hGa
                have HFb : Hid (fndV (Ub.f yn) = .tuple #[.string (str gs), .int .i64 ge]) := by show _ = _; rw [← HI.out.f]; exact hfn
                clear hfn
                go_upto_region 17 with (go_at_call 7; refine Calls.mono hGa ?_; rintro r w6 ⟨rfl, e1, e2⟩; have HT6 : Hid (Two B w6 qa B C qb C (Ua.getK yn) Ub (16 * k + 16) (16 * k)) := e1; have HB6 : Hid (Below B wr w6) := e2; clear e1 e2 hGa)
                clear x0 x1 x2
                obtain ⟨x0, x1, x2⟩ := HC1.out w6 (HI.out.bel.trans HB6.out)
                have hGb := HT6.out.callB (f := 7) (args := #[.pointer (some ⟨qb, 0, none⟩), .int .i64 yn]) (fun Xm h => sget h (by obtain ⟨Xa, Xb, h6⟩ := HT6.out; exact h6.hC) hc16 hin hspb)
                rw [HFb.out] at hGb
                go_upto_region 18 with (go_at_call 7; refine Calls.mono hGb ?_; rintro r w7 ⟨rfl, e1, e2⟩; have HT7 : Hid (Two B w7 qa B C qb C (Ua.getK yn) (Ub.getK yn) (16 * k + 16) (16 * k + 16)) := e1; have HB7 : Hid (Below B w6 w7) := e2; clear e1 e2 hGb)
                clear x0 x1 x2
                have HI7 : Hid (TwI w B qa B C qb C Y (k + 1) w7 (Ua.getK yn) (Ub.getK yn)) := HI.out.get HkY.out HT.out HT7.out (HB6.out.trans HB7.out)
                go_wp2
                go_roundw
                case rel => exact ⟨k + 1, hlt, h80, by go_num, _, _, HI7.out⟩
                case measure => simp [intOf]; omega
              · by_cases k7 : yk = 7
                · subst k7
                  clear k4 k5 k6
                  obtain ⟨x0, x1, x2⟩ := HC1.out wr HI.out.bel
                  go_upto_region 21 with (fail)
                  obtain ⟨Wd, hWd⟩ : ∃ Wd, wr.drew = Wd := ⟨_, rfl⟩
                  have bd : Below wr.heap.size wr Wd := by rw [← hWd]; exact Below.drew (Below.refl _ _)
                  have HBd : Hid (Below B wr Wd) := bd.mono HI.out.two.low
                  have HTd : Hid (Two B Wd qa B C qb C Ua Ub (16 * k) (16 * k)) := HI.out.two.new bd
                  have hS := (HC1.out Wd (HI.out.bel.trans HBd.out)).2
                  have HFe : Hid (Ua.f = Ub.f) := HI.out.f
                  have hDa := HTd.out.callA (f := 8) (args := #[.pointer (some ⟨qa, 0, none⟩), .int .i64 yn]) (fun Xm h => sdrop h HTd.out.low hc16 hin)
                  clear bd x0 x1 x2
                  refine wp_calmD ?_
                  refine wp_region_L [] (fun W : World => W.cell? ⟨b, off + k * 3 + 1, none⟩ = some (.int .i64 yn) ∧ W.cell? ⟨b, off + k * 3 + 2, none⟩ = some (.string (str ys))) (by kernel_rfl) ?_
                  rw [hWd]
                  clear hWd
                  refine wpAnyL_take (i := 0) 111 (v := .pointer (some ⟨qa, 0, none⟩)) rfl rfl (by kernel_rfl) (by kernel_rfl) (by kernel_rfl) (by kernel_rfl) (by kernel_rfl) (by kernel_rfl) (fun _ _ _ h => h) hS (by rfl) (by intro w' hSw; obtain ⟨y1, y2⟩ := hSw; go_simp <;> with_reducible rfl) ?_
                  simp only [Act.put, List.setIfInBounds_toArray, List.set_cons_zero, List.set_cons_succ]
                  refine wpAnyL_take (i := 1) 112 (v := .slice (some ⟨b, off, none⟩) n0 cap) rfl rfl (by kernel_rfl) (by kernel_rfl) (by kernel_rfl) (by kernel_rfl) (by kernel_rfl) (by kernel_rfl) (fun _ _ _ h => h) hS (by rfl) (by intro w' hSw; obtain ⟨y1, y2⟩ := hSw; go_simp <;> with_reducible rfl) ?_
                  simp only [Act.put, List.setIfInBounds_toArray, List.set_cons_zero, List.set_cons_succ]
                  refine wpAnyL_take (i := 2) 113 (v := .int .i64 k) rfl rfl (by kernel_rfl) (by kernel_rfl) (by kernel_rfl) (by kernel_rfl) (by kernel_rfl) (by kernel_rfl) (fun _ _ _ h => h) hS (by rfl) (by intro w' hSw; obtain ⟨y1, y2⟩ := hSw; go_simp <;> with_reducible rfl) ?_
                  simp only [Act.put, List.setIfInBounds_toArray, List.set_cons_zero, List.set_cons_succ]
                  refine wpAnyL_take (i := 3) 114 (v := .pointer (some ⟨b, off + k * 3, none⟩)) rfl rfl (by kernel_rfl) (by kernel_rfl) (by kernel_rfl) (by kernel_rfl) (by kernel_rfl) (by kernel_rfl) (fun _ _ _ h => h) hS (by rfl) (by intro w' hSw; obtain ⟨y1, y2⟩ := hSw; go_simp <;> with_reducible rfl) ?_
                  simp only [Act.put, List.setIfInBounds_toArray, List.set_cons_zero, List.set_cons_succ]
                  refine wpAnyL_take (i := 4) 115 (v := .pointer (some ⟨b, off + k * 3 + 1, none⟩)) rfl rfl (by kernel_rfl) (by kernel_rfl) (by kernel_rfl) (by kernel_rfl) (by kernel_rfl) (by kernel_rfl) (fun _ _ _ h => h) hS (by rfl) (by intro w' hSw; obtain ⟨y1, y2⟩ := hSw; go_simp <;> with_reducible rfl) ?_
                  simp only [Act.put, List.setIfInBounds_toArray, List.set_cons_zero, List.set_cons_succ]
                  refine wpAnyL_take (i := 5) 116 (v := .int .i64 yn) rfl rfl (by kernel_rfl) (by kernel_rfl) (by kernel_rfl) (by kernel_rfl) (by kernel_rfl) (by kernel_rfl) (fun _ _ _ h => h) hS (by rfl) (by intro w' hSw; obtain ⟨y1, y2⟩ := hSw; go_simp <;> with_reducible rfl) ?_
                  simp only [Act.put, List.setIfInBounds_toArray, List.set_cons_zero, List.set_cons_succ]
                  refine wpAnyL_take (i := 7) 118 (v := .pointer (some ⟨qb, 0, none⟩)) rfl rfl (by kernel_rfl) (by kernel_rfl) (by kernel_rfl) (by kernel_rfl) (by kernel_rfl) (by kernel_rfl) (fun _ _ _ h => h) hS (by rfl) (by intro w' hSw; obtain ⟨y1, y2⟩ := hSw; go_simp <;> with_reducible rfl) ?_
                  simp only [Act.put, List.setIfInBounds_toArray, List.set_cons_zero, List.set_cons_succ]
                  refine wpAnyL_take (i := 8) 119 (v := .slice (some ⟨b, off, none⟩) n0 cap) rfl rfl (by kernel_rfl) (by kernel_rfl) (by kernel_rfl) (by kernel_rfl) (by kernel_rfl) (by kernel_rfl) (fun _ _ _ h => h) hS (by rfl) (by intro w' hSw; obtain ⟨y1, y2⟩ := hSw; go_simp <;> with_reducible rfl) ?_
                  simp only [Act.put, List.setIfInBounds_toArray, List.set_cons_zero, List.set_cons_succ]
                  refine wpAnyL_take (i := 9) 120 (v := .int .i64 k) rfl rfl (by kernel_rfl) (by kernel_rfl) (by kernel_rfl) (by kernel_rfl) (by kernel_rfl) (by kernel_rfl) (fun _ _ _ h => h) hS (by rfl) (by intro w' hSw; obtain ⟨y1, y2⟩ := hSw; go_simp <;> with_reducible rfl) ?_
                  simp only [Act.put, List.setIfInBounds_toArray, List.set_cons_zero, List.set_cons_succ]
                  refine wpAnyL_take (i := 10) 121 (v := .pointer (some ⟨b, off + k * 3, none⟩)) rfl rfl (by kernel_rfl) (by kernel_rfl) (by kernel_rfl) (by kernel_rfl) (by kernel_rfl) (by kernel_rfl) (fun _ _ _ h => h) hS (by rfl) (by intro w' hSw; obtain ⟨y1, y2⟩ := hSw; go_simp <;> with_reducible rfl) ?_
                  simp only [Act.put, List.setIfInBounds_toArray, List.set_cons_zero, List.set_cons_succ]
                  refine wpAnyL_take (i := 11) 122 (v := .pointer (some ⟨b, off + k * 3 + 1, none⟩)) rfl rfl (by kernel_rfl) (by kernel_rfl) (by kernel_rfl) (by kernel_rfl) (by kernel_rfl) (by kernel_rfl) (fun _ _ _ h => h) hS (by rfl) (by intro w' hSw; obtain ⟨y1, y2⟩ := hSw; go_simp <;> with_reducible rfl) ?_
                  simp only [Act.put, List.setIfInBounds_toArray, List.set_cons_zero, List.set_cons_succ]
                  refine wpAnyL_take (i := 12) 123 (v := .int .i64 yn) rfl rfl (by kernel_rfl) (by kernel_rfl) (by kernel_rfl) (by kernel_rfl) (by kernel_rfl) (by kernel_rfl) (fun _ _ _ h => h) hS (by rfl) (by intro w' hSw; obtain ⟨y1, y2⟩ := hSw; go_simp <;> with_reducible rfl) ?_
                  simp only [Act.put, List.setIfInBounds_toArray, List.set_cons_zero, List.set_cons_succ]
                  obtain ⟨dd, hdd⟩ : ∃ dd, (Ua.f yn).isSome = dd := ⟨_, rfl⟩
                  rw [hdd] at hDa
                  have HDd : Hid ((Ub.f yn).isSome = dd) := by show _ = _; rw [← HFe.out]; exact hdd
                  clear hdd
                  refine wpAnyL_one (i := 6) (by kernel_rfl) rfl (fun Ka hKa => ?_)
                  go_simp
                  refine Calls.mono hDa ?_
                  rintro r w6 ⟨rfl, e1, e2⟩
                  have HT6 : Hid (Two B w6 qa B C qb C (Ua.dropK yn) Ub (16 * k + 16) (16 * k)) := e1
                  have HB6 : Hid (Below B wr w6) := HBd.out.trans e2
                  have hS6 := (HC1.out w6 (HI.out.bel.trans HB6.out)).2
                  refine hKa.out _ _ (fun _ => hS6) ?_
                  clear hKa Ka e1 e2 hDa hS
                  try simp only [Act.put, List.setIfInBounds_toArray, List.set_cons_zero, List.set_cons_succ]
                  have hDb := HT6.out.callB (f := 8) (args := #[.pointer (some ⟨qb, 0, none⟩), .int .i64 yn]) (fun Xm h => sdrop h (by obtain ⟨Xa, Xb, h6⟩ := HT6.out; exact h6.hC) hc16 hin)
                  rw [HDd.out] at hDb
                  refine wpAnyL_one (i := 13) (by kernel_rfl) rfl (fun Ka hKa => ?_)
                  go_simp
                  refine Calls.mono hDb ?_
                  rintro r w7 ⟨rfl, e1, e2⟩
                  have HT7 : Hid (Two B w7 qa B C qb C (Ua.dropK yn) (Ub.dropK yn) (16 * k + 16) (16 * k + 16)) := e1
                  have HB7 : Hid (Below B wr w7) := HB6.out.trans e2
                  have hS7 := (HC1.out w7 (HI.out.bel.trans HB7.out)).2
                  refine hKa.out _ _ (fun _ => hS7) ?_
                  clear hKa Ka e1 e2 hDb hS6
                  try simp only [Act.put, List.setIfInBounds_toArray, List.set_cons_zero, List.set_cons_succ]
                  refine wpAnyL_take (i := 14) 125 (v := .bool false) rfl rfl (by kernel_rfl) (by kernel_rfl) (by kernel_rfl) (by kernel_rfl) (by kernel_rfl) (by kernel_rfl) (fun _ _ _ h => h) hS7 (by rfl) (by intro w' hSw; obtain ⟨y1, y2⟩ := hSw; go_simp <;> with_reducible rfl) ?_
                  simp only [Act.put, List.setIfInBounds_toArray, List.set_cons_zero, List.set_cons_succ]
                  refine wpAnyL_done (by kernel_rfl) ?_ _
                  clear hS7
                  have HI7 : Hid (TwI w B qa B C qb C Y (k + 1) w7 (Ua.dropK yn) (Ub.dropK yn)) := HI.out.drop HkY.out HT7.out HB7.out
                  go_wp2
                  go_roundw
                  case rel => exact ⟨k + 1, hlt, h80, by go_num, _, _, HI7.out⟩
                  case measure => simp [intOf]; omega
                · obtain ⟨x0, x1, x2⟩ := HC1.out wr HI.out.bel
                  go_upto_region 11 with (fail)
                  obtain ⟨Wd, hWd⟩ : ∃ Wd, wr.drew = Wd := ⟨_, rfl⟩
                  have bd : Below wr.heap.size wr Wd := by rw [← hWd]; exact Below.drew (Below.refl _ _)
                  have HBd : Hid (Below B wr Wd) := bd.mono HI.out.two.low
                  have HTd : Hid (Two B Wd qa B C qb C Ua Ub (16 * k) (16 * k)) := HI.out.two.new bd
                  have hS := (HC1.out Wd (HI.out.bel.trans HBd.out)).2
                  have HFe : Hid (Ua.f = Ub.f) := HI.out.f
                  have hDa := HTd.out.callA (f := 9) (args := #[.pointer (some ⟨qa, 0, none⟩), .int .i64 yn, .string (str ys)]) (fun Xm h => sput h HTd.out.low hc16 hsl hspa)
                  clear bd x0 x1 x2
                  refine wp_calmD ?_
                  refine wp_region_L [] (fun W : World => W.cell? ⟨b, off + k * 3 + 1, none⟩ = some (.int .i64 yn) ∧ W.cell? ⟨b, off + k * 3 + 2, none⟩ = some (.string (str ys))) (by kernel_rfl) ?_
                  rw [hWd]
                  clear hWd
                  refine wpAnyL_take (i := 0) 52 (v := .pointer (some ⟨qa, 0, none⟩)) rfl rfl (by kernel_rfl) (by kernel_rfl) (by kernel_rfl) (by kernel_rfl) (by kernel_rfl) (by kernel_rfl) (fun _ _ _ h => h) hS (by rfl) (by intro w' hSw; obtain ⟨y1, y2⟩ := hSw; go_simp <;> with_reducible rfl) ?_
                  simp only [Act.put, List.setIfInBounds_toArray, List.set_cons_zero, List.set_cons_succ]
                  refine wpAnyL_take (i := 1) 53 (v := .slice (some ⟨b, off, none⟩) n0 cap) rfl rfl (by kernel_rfl) (by kernel_rfl) (by kernel_rfl) (by kernel_rfl) (by kernel_rfl) (by kernel_rfl) (fun _ _ _ h => h) hS (by rfl) (by intro w' hSw; obtain ⟨y1, y2⟩ := hSw; go_simp <;> with_reducible rfl) ?_
                  simp only [Act.put, List.setIfInBounds_toArray, List.set_cons_zero, List.set_cons_succ]
                  refine wpAnyL_take (i := 2) 54 (v := .int .i64 k) rfl rfl (by kernel_rfl) (by kernel_rfl) (by kernel_rfl) (by kernel_rfl) (by kernel_rfl) (by kernel_rfl) (fun _ _ _ h => h) hS (by rfl) (by intro w' hSw; obtain ⟨y1, y2⟩ := hSw; go_simp <;> with_reducible rfl) ?_
                  simp only [Act.put, List.setIfInBounds_toArray, List.set_cons_zero, List.set_cons_succ]
                  refine wpAnyL_take (i := 3) 55 (v := .pointer (some ⟨b, off + k * 3, none⟩)) rfl rfl (by kernel_rfl) (by kernel_rfl) (by kernel_rfl) (by kernel_rfl) (by kernel_rfl) (by kernel_rfl) (fun _ _ _ h => h) hS (by rfl) (by intro w' hSw; obtain ⟨y1, y2⟩ := hSw; go_simp <;> with_reducible rfl) ?_
                  simp only [Act.put, List.setIfInBounds_toArray, List.set_cons_zero, List.set_cons_succ]
                  refine wpAnyL_take (i := 4) 56 (v := .pointer (some ⟨b, off + k * 3 + 1, none⟩)) rfl rfl (by kernel_rfl) (by kernel_rfl) (by kernel_rfl) (by kernel_rfl) (by kernel_rfl) (by kernel_rfl) (fun _ _ _ h => h) hS (by rfl) (by intro w' hSw; obtain ⟨y1, y2⟩ := hSw; go_simp <;> with_reducible rfl) ?_
                  simp only [Act.put, List.setIfInBounds_toArray, List.set_cons_zero, List.set_cons_succ]
                  refine wpAnyL_take (i := 5) 57 (v := .int .i64 yn) rfl rfl (by kernel_rfl) (by kernel_rfl) (by kernel_rfl) (by kernel_rfl) (by kernel_rfl) (by kernel_rfl) (fun _ _ _ h => h) hS (by rfl) (by intro w' hSw; obtain ⟨y1, y2⟩ := hSw; go_simp <;> with_reducible rfl) ?_
                  simp only [Act.put, List.setIfInBounds_toArray, List.set_cons_zero, List.set_cons_succ]
                  refine wpAnyL_take (i := 6) 58 (v := .slice (some ⟨b, off, none⟩) n0 cap) rfl rfl (by kernel_rfl) (by kernel_rfl) (by kernel_rfl) (by kernel_rfl) (by kernel_rfl) (by kernel_rfl) (fun _ _ _ h => h) hS (by rfl) (by intro w' hSw; obtain ⟨y1, y2⟩ := hSw; go_simp <;> with_reducible rfl) ?_
                  simp only [Act.put, List.setIfInBounds_toArray, List.set_cons_zero, List.set_cons_succ]
                  refine wpAnyL_take (i := 7) 59 (v := .int .i64 k) rfl rfl (by kernel_rfl) (by kernel_rfl) (by kernel_rfl) (by kernel_rfl) (by kernel_rfl) (by kernel_rfl) (fun _ _ _ h => h) hS (by rfl) (by intro w' hSw; obtain ⟨y1, y2⟩ := hSw; go_simp <;> with_reducible rfl) ?_
                  simp only [Act.put, List.setIfInBounds_toArray, List.set_cons_zero, List.set_cons_succ]
                  refine wpAnyL_take (i := 8) 60 (v := .pointer (some ⟨b, off + k * 3, none⟩)) rfl rfl (by kernel_rfl) (by kernel_rfl) (by kernel_rfl) (by kernel_rfl) (by kernel_rfl) (by kernel_rfl) (fun _ _ _ h => h) hS (by rfl) (by intro w' hSw; obtain ⟨y1, y2⟩ := hSw; go_simp <;> with_reducible rfl) ?_
                  simp only [Act.put, List.setIfInBounds_toArray, List.set_cons_zero, List.set_cons_succ]
                  refine wpAnyL_take (i := 9) 61 (v := .pointer (some ⟨b, off + k * 3 + 2, none⟩)) rfl rfl (by kernel_rfl) (by kernel_rfl) (by kernel_rfl) (by kernel_rfl) (by kernel_rfl) (by kernel_rfl) (fun _ _ _ h => h) hS (by rfl) (by intro w' hSw; obtain ⟨y1, y2⟩ := hSw; go_simp <;> with_reducible rfl) ?_
                  simp only [Act.put, List.setIfInBounds_toArray, List.set_cons_zero, List.set_cons_succ]
                  refine wpAnyL_take (i := 10) 62 (v := .string (str ys)) rfl rfl (by kernel_rfl) (by kernel_rfl) (by kernel_rfl) (by kernel_rfl) (by kernel_rfl) (by kernel_rfl) (fun _ _ _ h => h) hS (by rfl) (by intro w' hSw; obtain ⟨y1, y2⟩ := hSw; go_simp <;> with_reducible rfl) ?_
                  simp only [Act.put, List.setIfInBounds_toArray, List.set_cons_zero, List.set_cons_succ]
                  refine wpAnyL_take (i := 12) 64 (v := .pointer (some ⟨qb, 0, none⟩)) rfl rfl (by kernel_rfl) (by kernel_rfl) (by kernel_rfl) (by kernel_rfl) (by kernel_rfl) (by kernel_rfl) (fun _ _ _ h => h) hS (by rfl) (by intro w' hSw; obtain ⟨y1, y2⟩ := hSw; go_simp <;> with_reducible rfl) ?_
                  simp only [Act.put, List.setIfInBounds_toArray, List.set_cons_zero, List.set_cons_succ]
                  refine wpAnyL_take (i := 13) 65 (v := .slice (some ⟨b, off, none⟩) n0 cap) rfl rfl (by kernel_rfl) (by kernel_rfl) (by kernel_rfl) (by kernel_rfl) (by kernel_rfl) (by kernel_rfl) (fun _ _ _ h => h) hS (by rfl) (by intro w' hSw; obtain ⟨y1, y2⟩ := hSw; go_simp <;> with_reducible rfl) ?_
                  simp only [Act.put, List.setIfInBounds_toArray, List.set_cons_zero, List.set_cons_succ]
                  refine wpAnyL_take (i := 14) 66 (v := .int .i64 k) rfl rfl (by kernel_rfl) (by kernel_rfl) (by kernel_rfl) (by kernel_rfl) (by kernel_rfl) (by kernel_rfl) (fun _ _ _ h => h) hS (by rfl) (by intro w' hSw; obtain ⟨y1, y2⟩ := hSw; go_simp <;> with_reducible rfl) ?_
                  simp only [Act.put, List.setIfInBounds_toArray, List.set_cons_zero, List.set_cons_succ]
                  refine wpAnyL_take (i := 15) 67 (v := .pointer (some ⟨b, off + k * 3, none⟩)) rfl rfl (by kernel_rfl) (by kernel_rfl) (by kernel_rfl) (by kernel_rfl) (by kernel_rfl) (by kernel_rfl) (fun _ _ _ h => h) hS (by rfl) (by intro w' hSw; obtain ⟨y1, y2⟩ := hSw; go_simp <;> with_reducible rfl) ?_
                  simp only [Act.put, List.setIfInBounds_toArray, List.set_cons_zero, List.set_cons_succ]
                  refine wpAnyL_take (i := 16) 68 (v := .pointer (some ⟨b, off + k * 3 + 1, none⟩)) rfl rfl (by kernel_rfl) (by kernel_rfl) (by kernel_rfl) (by kernel_rfl) (by kernel_rfl) (by kernel_rfl) (fun _ _ _ h => h) hS (by rfl) (by intro w' hSw; obtain ⟨y1, y2⟩ := hSw; go_simp <;> with_reducible rfl) ?_
                  simp only [Act.put, List.setIfInBounds_toArray, List.set_cons_zero, List.set_cons_succ]
                  refine wpAnyL_take (i := 17) 69 (v := .int .i64 yn) rfl rfl (by kernel_rfl) (by kernel_rfl) (by kernel_rfl) (by kernel_rfl) (by kernel_rfl) (by kernel_rfl) (fun _ _ _ h => h) hS (by rfl) (by intro w' hSw; obtain ⟨y1, y2⟩ := hSw; go_simp <;> with_reducible rfl) ?_
                  simp only [Act.put, List.setIfInBounds_toArray, List.set_cons_zero, List.set_cons_succ]
                  refine wpAnyL_take (i := 18) 70 (v := .slice (some ⟨b, off, none⟩) n0 cap) rfl rfl (by kernel_rfl) (by kernel_rfl) (by kernel_rfl) (by kernel_rfl) (by kernel_rfl) (by kernel_rfl) (fun _ _ _ h => h) hS (by rfl) (by intro w' hSw; obtain ⟨y1, y2⟩ := hSw; go_simp <;> with_reducible rfl) ?_
                  simp only [Act.put, List.setIfInBounds_toArray, List.set_cons_zero, List.set_cons_succ]
                  refine wpAnyL_take (i := 19) 71 (v := .int .i64 k) rfl rfl (by kernel_rfl) (by kernel_rfl) (by kernel_rfl) (by kernel_rfl) (by kernel_rfl) (by kernel_rfl) (fun _ _ _ h => h) hS (by rfl) (by intro w' hSw; obtain ⟨y1, y2⟩ := hSw; go_simp <;> with_reducible rfl) ?_
                  simp only [Act.put, List.setIfInBounds_toArray, List.set_cons_zero, List.set_cons_succ]
                  refine wpAnyL_take (i := 20) 72 (v := .pointer (some ⟨b, off + k * 3, none⟩)) rfl rfl (by kernel_rfl) (by kernel_rfl) (by kernel_rfl) (by kernel_rfl) (by kernel_rfl) (by kernel_rfl) (fun _ _ _ h => h) hS (by rfl) (by intro w' hSw; obtain ⟨y1, y2⟩ := hSw; go_simp <;> with_reducible rfl) ?_
                  simp only [Act.put, List.setIfInBounds_toArray, List.set_cons_zero, List.set_cons_succ]
                  refine wpAnyL_take (i := 21) 73 (v := .pointer (some ⟨b, off + k * 3 + 2, none⟩)) rfl rfl (by kernel_rfl) (by kernel_rfl) (by kernel_rfl) (by kernel_rfl) (by kernel_rfl) (by kernel_rfl) (fun _ _ _ h => h) hS (by rfl) (by intro w' hSw; obtain ⟨y1, y2⟩ := hSw; go_simp <;> with_reducible rfl) ?_
                  simp only [Act.put, List.setIfInBounds_toArray, List.set_cons_zero, List.set_cons_succ]
                  refine wpAnyL_take (i := 22) 74 (v := .string (str ys)) rfl rfl (by kernel_rfl) (by kernel_rfl) (by kernel_rfl) (by kernel_rfl) (by kernel_rfl) (by kernel_rfl) (fun _ _ _ h => h) hS (by rfl) (by intro w' hSw; obtain ⟨y1, y2⟩ := hSw; go_simp <;> with_reducible rfl) ?_
                  simp only [Act.put, List.setIfInBounds_toArray, List.set_cons_zero, List.set_cons_succ]
                  obtain ⟨er, her⟩ : ∃ er : Int, (if okN yn = true then (0 : Int) else 1) = er := ⟨_, rfl⟩
                  have HEr : Hid ((if okN yn = true then (0 : Int) else 1) = er) := her
                  rw [her] at hDa
                  clear her
                  refine wpAnyL_one (i := 11) (by kernel_rfl) rfl (fun Ka hKa => ?_)
                  go_simp
                  refine Calls.mono hDa ?_
                  rintro r w6 ⟨rfl, e1, e2⟩
                  have HT6 : Hid (Two B w6 qa B C qb C (Ua.putK yn ys) Ub (16 * k + 16) (16 * k)) := e1
                  have HB6 : Hid (Below B wr w6) := HBd.out.trans e2
                  have hS6 := (HC1.out w6 (HI.out.bel.trans HB6.out)).2
                  refine hKa.out _ _ (fun _ => hS6) ?_
                  clear hKa Ka e1 e2 hDa hS
                  try simp only [Act.put, List.setIfInBounds_toArray, List.set_cons_zero, List.set_cons_succ]
                  have hDb := HT6.out.callB (f := 9) (args := #[.pointer (some ⟨qb, 0, none⟩), .int .i64 yn, .string (str ys)]) (fun Xm h => sput h (by obtain ⟨Xa, Xb, h6⟩ := HT6.out; exact h6.hC) hc16 hsl hspb)
                  rw [HEr.out] at hDb
                  refine wpAnyL_one (i := 23) (by kernel_rfl) rfl (fun Ka hKa => ?_)
                  go_simp
                  refine Calls.mono hDb ?_
                  rintro r w7 ⟨rfl, e1, e2⟩
                  have HT7 : Hid (Two B w7 qa B C qb C (Ua.putK yn ys) (Ub.putK yn ys) (16 * k + 16) (16 * k + 16)) := e1
                  have HB7 : Hid (Below B wr w7) := HB6.out.trans e2
                  have hS7 := (HC1.out w7 (HI.out.bel.trans HB7.out)).2
                  refine hKa.out _ _ (fun _ => hS7) ?_
                  clear hKa Ka e1 e2 hDb hS6
                  try simp only [Act.put, List.setIfInBounds_toArray, List.set_cons_zero, List.set_cons_succ]
                  refine wpAnyL_take (i := 24) 76 (v := .bool false) rfl rfl (by kernel_rfl) (by kernel_rfl) (by kernel_rfl) (by kernel_rfl) (by kernel_rfl) (by kernel_rfl) (fun _ _ _ h => h) hS7 (by rfl) (by intro w' hSw; obtain ⟨y1, y2⟩ := hSw; go_simp <;> with_reducible rfl) ?_
                  simp only [Act.put, List.setIfInBounds_toArray, List.set_cons_zero, List.set_cons_succ]
                  refine wpAnyL_done (by kernel_rfl) ?_ _
                  clear hS7
                  have HI7 : Hid (TwI w B qa B C qb C Y (k + 1) w7 (Ua.putK yn ys) (Ub.putK yn ys)) := HPut.out w7 yn HT7.out HB7.out
                  go_wp2
                  go_roundw
                  case rel => exact ⟨k + 1, hlt, h80, by go_num, _, _, HI7.out⟩
                  case measure => simp [intOf]; omega
        · have hSp : Calls Tryd.prog 10 #[.pointer (some ⟨qb, 0, none⟩)] wr fun r w' => r = .returned (.int .i64 0) ∧ w' = wr := by
            obtain ⟨Xa, Xb, h⟩ := HI.out.two
            have := sspills h.b
            rw [HI.out.sp] at this
            exact this
          go_wp2_with (go_at_call 10; refine Calls.mono hSp ?_; rintro r w6 ⟨rfl, hw6⟩; rw [hw6]; clear hw6)
          go_ret
          rw [HBw.out]
          exact ⟨rfl, HI.out.bel⟩
      · have hSp : Calls Tryd.prog 10 #[.pointer (some ⟨qb, 0, none⟩)] wr fun r w' => r = .returned (.int .i64 0) ∧ w' = wr := by
          obtain ⟨Xa, Xb, h⟩ := HI.out.two
          have := sspills h.b
          rw [HI.out.sp] at this
          exact this
        go_wp2_with (go_at_call 10; refine Calls.mono hSp ?_; rintro r w6 ⟨rfl, hw6⟩; rw [hw6]; clear hw6)
        go_ret
        rw [HBw.out]
        exact ⟨rfl, HI.out.bel⟩
end Go.Proofs.YtjemnkijoiehmaaDoor
