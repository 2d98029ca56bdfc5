/- SessBytes: a table that was told as bytes, and taken again, answers as the one that it was. -/
import Derived.Test.YtdnakakichblgaaSsAk
namespace Go.Proofs.Ytdnakakichblgaa
open Go.RowKit Go.Maps
attribute [local go_sem] Oper.semAt_some
set_option linter.unusedSimpArgs false in
set_option maxRecDepth 100000 in
set_option maxHeartbeats 8000000 in
theorem law_sbytes (w : World) {v1 v2 : Value} {X Y : List Ak} (h1 : AkS w v1 X) (h2 : AkS w v2 Y) (o1 : ∀ x ∈ X, x.ok) (o2 : ∀ x ∈ Y, x.ok) (hl1 : X.length ≤ 1048576) (hl2 : Y.length ≤ 1048576) : Calls Try.prog 5 #[v1, v2] w fun r w' => r = .returned (.bool true) ∧ Below w.heap.size w w' := by
  obtain ⟨ao1, c1, rfl, hX⟩ := h1
  obtain ⟨ao2, c2, rfl, hY⟩ := h2
  have HX : Hid (0 < X.length → ∃ b off, ao1 = some ⟨b, off, none⟩ ∧ ∀ j (h : j < X.length), w.cell? ⟨b, off + j * 4, none⟩ = some (.int .i64 X[j].k) ∧ w.cell? ⟨b, off + j * 4 + 1, none⟩ = some (.int .i64 X[j].n) ∧ w.cell? ⟨b, off + j * 4 + 2, none⟩ = some (.bool X[j].lk) ∧ w.cell? ⟨b, off + j * 4 + 3, none⟩ = some (.string X[j].s)) := hX
  have HY : Hid (0 < Y.length → ∃ b off, ao2 = some ⟨b, off, none⟩ ∧ ∀ j (h : j < Y.length), w.cell? ⟨b, off + j * 4, none⟩ = some (.int .i64 Y[j].k) ∧ w.cell? ⟨b, off + j * 4 + 1, none⟩ = some (.int .i64 Y[j].n) ∧ w.cell? ⟨b, off + j * 4 + 2, none⟩ = some (.bool Y[j].lk) ∧ w.cell? ⟨b, off + j * 4 + 3, none⟩ = some (.string Y[j].s)) := hY
  have HO1 : Hid (∀ x ∈ X, x.ok) := o1
  have HO2 : Hid (∀ x ∈ Y, x.ok) := o2
  have hmf : ∀ (fn : Fn) (first cap : Array Value) (w : World), (Instr.makeFunc fn first cap).run Try.prog w = .ok (.func fn first cap) w := fun _ _ _ _ => rfl
  clear hX hY o1 o2
  have hN := snew w w.heap.size (Nat.le_refl _)
  go_enter Try.func5, Try.ntmps5
  go_upto_region 2 with (go_at_call 6; refine hN.mono ?_; rintro r w1 ⟨rfl, hT1, hb1⟩)
  have HT1 : Hid (TA w1 w.heap.size w.heap.size (.slice none 0 0) []) := hT1
  have HB1 : Hid (Below w.heap.size w w1) := hb1
  clear hN hT1 hb1
  obtain ⟨p, hp⟩ : ∃ p, w.heap.size = p := ⟨_, rfl⟩
  have HPe : Hid (w.heap.size = p) := hp
  have HT1 : Hid (TA w1 w.heap.size p (.slice none 0 0) []) := by rw [← hp]; exact HT1.out
  rw [hp]
  clear hp
  go_wp2
  go_loopw [6] (fun i wr => ∃ (j : Nat) (L : List Req) (v : Value), j ≤ X.length ∧ j ≤ 100 ∧ i = .int .i64 j ∧ Hid (TA wr w.heap.size p v L) ∧ Hid (Tab L) ∧ Hid (Okq L j) ∧ Hid (Below w.heap.size w wr)) (fun i _ => X.length - (intOf i).toNat)
  case atStart => exact ⟨0, [], _, Nat.zero_le _, Nat.zero_le _, rfl, HT1, Tab.nil, (fun x hx => by simp at hx), HB1⟩
  case round =>
    obtain ⟨j, L, v, hj, hj2, rfl, HT, HTab, HOk, HB⟩ := hrel
    by_cases hlt : j < X.length ∧ j < 100
    · obtain ⟨hlt, hlt2⟩ := hlt
      obtain ⟨b, off, rfl, hc⟩ := HX.out (by omega)
      obtain ⟨e0, e1, e2, e3⟩ := hc j hlt
      have hbb := slt_cell e0
      have d0 := (HB.out.cell (p := ⟨b, off + j * 4, none⟩) hbb).trans e0
      have d1 := (HB.out.cell (p := ⟨b, off + j * 4 + 1, none⟩) hbb).trans e1
      have d2 := (HB.out.cell (p := ⟨b, off + j * 4 + 2, none⟩) hbb).trans e2
      have d3 := (HB.out.cell (p := ⟨b, off + j * 4 + 3, none⟩) hbb).trans e3
      have HXo : Hid (X[j].ok) := HO1.out _ (List.getElem_mem hlt)
      generalize X[j] = x at d0 d1 d2 d3 HXo
      have hjn : (j : Int) < X.length := by omega
      have hj3 : (j : Int) < 100 := by omega
      clear hc e0 e1 e2 e3 hbb
      go_upto_region 6 with (fail)
      generalize hW : World.alloc _ _ = W
      have bW : Below wr.heap.size wr W := by rw [← hW]; exact sone_new _ _
      have hZ : W.heap[wr.heap.size]? = some (.cells #[.int .i64 x.k, .int .i64 x.n, .bool x.lk, .string x.s] 28 (0, 0)) := by rw [← hW]; exact heap_alloc_new _ _
      have HT2 : Hid (TA W w.heap.size p v L) := HT.out.new bW
      have HB2 : Hid (Below w.heap.size w W) := HB.out.trans (bW.mono HB.out.size)
      clear hW bW d0 d1 d2 d3
      generalize wr.heap.size = q at hZ ⊢
      have HZ : Hid (W.heap[q]? = some (.cells #[.int .i64 x.k, .int .i64 x.n, .bool x.lk, .string x.s] 28 (0, 0))) := hZ
      obtain ⟨z0, z1, z2, z3⟩ := sbox4 hZ
      have hD := sdo (g := 26) (cb := #[.pointer (some ⟨q, 0, none⟩)]) (s := x.s) (k := x.k) (n := x.n) HT2.out HTab.out HXo.out.2.1 (fun W' hf => tells_b1 (sbox4 (box_left HT2.out HZ.out hf)).2.2.2)
      clear hZ
      go_wp2_with (go_at_call 10; refine hD.mono ?_; rintro r w3 ⟨rfl, ht3⟩)
      have HB3 : Hid (Below w.heap.size w w3) := TTo.below HT2.out HB2.out ht3
      obtain ⟨v3, hT3, _, _⟩ := ht3
      go_roundw
      case rel => exact ⟨j + 1, doL L x.k x.n x.s, v3, by omega, by omega, by go_num, hT3, doL_tab HTab.out _ _ _, doL_ok HTab.out HOk.out HXo.out.1 HXo.out.2.2, HB3⟩
      case measure => simp [intOf]; omega
    · have hcon : ¬ ((j : Int) < X.length ∧ (j : Int) < 100) := by omega
      clear hlt
      have HOk2 : Hid (Okq L 100) := fun x hx => ⟨(HOk.out x hx).1, by have := (HOk.out x hx).2.1; omega, (HOk.out x hx).2.2⟩
      have HRn : Hid (reqsN L ≤ 67111424) := by
        show _ ≤ _
        have h1 := reqsN_le HOk2.out
        have h2 := HTab.out.few
        omega
      have HNx : Hid (∀ P : Prop, (¬ ((j : Int) < X.length) → P) → ((j : Int) < X.length → ¬ ((j : Int) < 100) → P) → P) := fun P f g => by
        by_cases h : (j : Int) < X.length
        · exact g h (fun h2 => hcon ⟨h, h2⟩)
        · exact f h
      clear HX HO1 HT1 HB1 HOk
      clear hcon
      refine HNx.out _ (fun hx => ?_) (fun hx hy => ?_)
      · clear HNx
        go_upto_region 8 with (go_at_call 14; refine (newwriter_any _).mono ?_; rintro r w4 ⟨rfl, hW4, hb4⟩)
        have HT4 : Hid (TA w4 w.heap.size p v L) := HT.out.new hb4
        have HB4 : Hid (Below w.heap.size w w4) := HB.out.trans (hb4.mono HB.out.size)
        have HW4 : Hid (Wr w4 (wr.heap.size + 1) wr.heap.size (.slice none 0 0) []) := hW4
        have HX4 : Hid (w.heap.size ≤ wr.heap.size) := HB.out.size
        clear hW4 hb4
        obtain ⟨pw, hpw⟩ : ∃ pw, wr.heap.size = pw := ⟨_, rfl⟩
        rw [hpw] at HW4 HX4 ⊢
        clear hpw
        have hPu := sput HT4.out HW4.out (by have := HTab.out.few; omega) (fun x hx => ⟨(HOk2.out x hx).1, by have := (HOk2.out x hx).2.1; omega, by have := (HOk2.out x hx).2.2; omega⟩) (by have := HRn.out; simp; omega)
        go_upto_region 9 with (go_at_call 15; refine hPu.mono ?_; rintro r w5 ⟨rfl, hT5⟩)
        have HT5 : Hid (TA w5 w.heap.size p v L) := HT4.out.wrote HW4.out hT5
        obtain ⟨v5, hW5, hF5, hR5⟩ := hT5
        have HW5 : Hid (Wr w5 (pw + 1) pw v5 (tabB L)) := hW5
        have HB5 : Hid (Below w.heap.size w w5) := HB4.out.trans (hF5.below HB4.out.size (fun k hk => by
          have := HX4.out
          rcases hk with hk | hk
          · omega
          · cases hk))
        clear hW5 hF5 hR5 hPu HT4 HB4 HW4 HX4
        have HTk : Hid (∀ W pr, Rd W pr (str (tabB L)) 0 0 → Calls Try.prog 21 #[.pointer (some ⟨pr, 0, none⟩)] W fun r w' => r = .returned (.pointer (some ⟨W.heap.size, 0, none⟩)) ∧ Rd w' pr (str (tabB L)) (tabB L).length 0 ∧ (∃ v, TA w' W.heap.size W.heap.size v L) ∧ Fr W w' (fun k => k = pr)) := fun W pr h => stake_enc HTab.out HOk2.out (by decide) h
        go_upto_region 10 with (first
          | (go_at_call 22; refine (wall_any HW5.out).mono ?_; rintro r w5 ⟨rfl, rfl⟩)
          | (go_at_call 20; refine (newreader_any _ _).mono ?_; rintro r w6 ⟨rfl, hr6, hb6⟩; have HR6 : Hid (Rd w6 w5.heap.size (str (tabB L)) 0 0) := hr6; have HB6 : Hid (Below w5.heap.size w5 w6) := hb6; clear hr6 hb6)
          | (go_at_call 21; refine Calls.mono (HTk.out _ _ HR6.out) ?_; rintro r w7 ⟨rfl, hr7, ⟨v7, ht7⟩, hf7⟩))
        have HB6w : Hid (Below w.heap.size w w6) := HB5.out.trans (HB6.out.mono HB5.out.size)
        have HT6 : Hid (TA w6 w.heap.size p v L) := HT5.out.new HB6.out
        have HTT : Hid (TT w7 w.heap.size p w6.heap.size v v7 L) := by
          refine ⟨HT6.out.reads HR6.out hf7, ht7.lower HB6w.out.size, ?_, fun k hk e => ?_⟩
          · have := HT6.out.lt
            omega
          · have h1 := (HT6.out.row.lt k hk).2
            have h2 := (ht7.row.lt k e).1
            omega
        have HB7 : Hid (Below w.heap.size w w7) := HB6w.out.trans (hf7.below HB6w.out.size (fun k hk => by have := HB5.out.size; omega))
        clear ht7 hr7 hf7 HR6 HB6 HTk HW5 HT5 HB5 HB6w HT6
        obtain ⟨pb, hpb⟩ : ∃ pb, w6.heap.size = pb := ⟨_, rfl⟩
        rw [hpb] at HTT ⊢
        clear hpb
        have hA := awake15 w7
        go_upto_region 12 with (first
          | (go_at_call 7; refine hA.mono ?_; rintro r w8 ⟨rfl, hb8⟩; have HTT8 : Hid (TT w8 w.heap.size p pb v v7 L) := HTT.out.new hb8; have HB8 : Hid (Below w.heap.size w w8) := HB7.out.trans (hb8.mono HB7.out.size); clear hb8)
          | (go_at_call 13; refine (len_two HTT8.out _ (by first | exact .inl rfl | exact .inr rfl)).mono ?_; rintro r w8 ⟨rfl, rfl⟩))
        clear hA HTT HB7 HT HB HOk2 HRn
        go_wp2
        go_loopw [10] (fun i wr => ∃ (j : Nat) (L : List Req) (va vb : Value), j ≤ Y.length ∧ j ≤ 100 ∧ i = .int .i64 j ∧ Hid (TT wr w.heap.size p pb va vb L) ∧ Hid (Tab L) ∧ Hid (Below w.heap.size w wr)) (fun i _ => Y.length - (intOf i).toNat)
        case atStart => exact ⟨0, L, _, _, Nat.zero_le _, Nat.zero_le _, rfl, HTT8, HTab, HB8⟩
        case round =>
          clear HTT8 HB8 HTab
          clear hj hj2
          obtain ⟨i, M, va, vb, hi, hi2, rfl, HTt, HTab, HB⟩ := hrel
          by_cases hlt : i < Y.length ∧ i < 100
          · obtain ⟨hlt, hlt2⟩ := hlt
            obtain ⟨b, off, rfl, hc⟩ := HY.out (by omega)
            obtain ⟨e0, e1, e2, e3⟩ := hc i hlt
            have hbb := slt_cell e0
            have d0 := (HB.out.cell (p := ⟨b, off + i * 4, none⟩) hbb).trans e0
            have d1 := (HB.out.cell (p := ⟨b, off + i * 4 + 1, none⟩) hbb).trans e1
            have d2 := (HB.out.cell (p := ⟨b, off + i * 4 + 2, none⟩) hbb).trans e2
            have d3 := (HB.out.cell (p := ⟨b, off + i * 4 + 3, none⟩) hbb).trans e3
            have HXo : Hid (Y[i].ok) := HO2.out _ (List.getElem_mem hlt)
            generalize Y[i] = x at d0 d1 d2 d3 HXo
            have hin : (i : Int) < Y.length := by omega
            have hi3 : (i : Int) < 100 := by omega
            clear hc e0 e1 e2 e3 hbb hx
            go_upto_region 16 with (fail)
            generalize hW : World.alloc _ _ = W
            have bW : Below wr.heap.size wr W := by rw [← hW]; exact sone_new _ _
            have hZ : W.heap[wr.heap.size]? = some (.cells #[.int .i64 x.k, .int .i64 x.n, .bool x.lk, .string x.s] 28 (0, 0)) := by rw [← hW]; exact heap_alloc_new _ _
            have HTt2 : Hid (TT W w.heap.size p pb va vb M) := HTt.out.new bW
            have HB2 : Hid (Below w.heap.size w W) := HB.out.trans (bW.mono HB.out.size)
            clear hW bW d0 d1 d2 d3
            generalize wr.heap.size = q at hZ ⊢
            have HZ : Hid (W.heap[q]? = some (.cells #[.int .i64 x.k, .int .i64 x.n, .bool x.lk, .string x.s] 28 (0, 0))) := hZ
            obtain ⟨z0, z1, z2, z3⟩ := sbox4 hZ
            have hD := sdo (g := 27) (cb := #[.pointer (some ⟨q, 0, none⟩)]) (s := x.s) (k := x.k) (n := x.n) HTt2.out.a HTab.out HXo.out.2.1 (fun W' hf => tells_b2 (sbox4 (box_left HTt2.out.a HZ.out hf)).2.2.2)
            have HTab2 : Hid (Tab (doL M x.k x.n x.s)) := doL_tab HTab.out _ _ _
            have HD2 : Hid (∀ (W2 : World) (u : Value), TA W2 w.heap.size pb u M → W2.heap[q]? = some (.cells #[.int .i64 x.k, .int .i64 x.n, .bool x.lk, .string x.s] 28 (0, 0)) → Calls Try.prog 10 #[.pointer (some ⟨pb, 0, none⟩), .int .i64 x.k, .int .i64 x.n, .func (.func 28) #[] #[.pointer (some ⟨q, 0, none⟩)]] W2 fun r w' => r = .returned (.tuple #[.string (doA M x.k x.n x.s).1, .bool (doA M x.k x.n x.s).2.1, .int .i64 (doA M x.k x.n x.s).2.2]) ∧ TTo W2 w' w.heap.size pb u (doL M x.k x.n x.s)) := fun W2 u h1 h2 => sdo h1 HTab.out HXo.out.2.1 (fun W' hf => tells_b3 (sbox4 (box_left h1 h2 hf)).2.2.2)
            generalize doA M x.k x.n x.s = t at hD HD2
            obtain ⟨t1, t2, t3⟩ := t
            simp only at hD HD2
            clear hZ
            go_upto_region 17 with (go_at_call 10; refine hD.mono ?_; rintro r w3 ⟨rfl, ht3⟩)
            have HB3 : Hid (Below w.heap.size w w3) := TTo.below HTt2.out.a HB2.out ht3
            have HZ3 : Hid (w3.heap[q]? = some (.cells #[.int .i64 x.k, .int .i64 x.n, .bool x.lk, .string x.s] 28 (0, 0))) := by
              obtain ⟨_, _, hf, _⟩ := ht3
              exact box_left HTt2.out.a HZ.out hf
            obtain ⟨va3, ha3, hb3, hr3⟩ := other_kept HTt2.out.a HTt2.out.b HTt2.out.ne HTt2.out.rows ht3
            have HA3 : Hid (TA w3 w.heap.size p va3 (doL M x.k x.n x.s)) := ha3
            have HBb3 : Hid (TA w3 w.heap.size pb vb M) := hb3
            have HRr3 : Hid (∀ k, va3.ownBlock = some k → vb.ownBlock ≠ some k) := hr3
            have HNe : Hid (p ≠ pb) := HTt2.out.ne
            clear hD ht3 ha3 hb3 hr3 z0 z1 z2 z3
            obtain ⟨z0, z1, z2, z3⟩ := sbox4 HZ3.out
            go_upto_region 18 with (go_at_call 10; refine Calls.mono (HD2.out w3 vb HBb3.out HZ3.out) ?_; rintro r w4 ⟨rfl, ht4⟩)
            have HB4 : Hid (Below w.heap.size w w4) := TTo.below HBb3.out HB3.out ht4
            have HZ4 : Hid (w4.heap[q]? = some (.cells #[.int .i64 x.k, .int .i64 x.n, .bool x.lk, .string x.s] 28 (0, 0))) := by
              obtain ⟨_, _, hf, _⟩ := ht4
              exact box_left HBb3.out HZ3.out hf
            obtain ⟨vb4, hb4, ha4, hr4⟩ := other_kept HBb3.out HA3.out HNe.out.symm (fun k hk e => HRr3.out k e hk) ht4
            have HTt4 : Hid (TT w4 w.heap.size p pb va3 vb4 (doL M x.k x.n x.s)) := ⟨ha4, hb4, HNe.out, fun k hk e => hr4 k e hk⟩
            clear ht4 hb4 ha4 hr4 z0 z1 z2 z3 HD2
            generalize doL M x.k x.n x.s = M2 at HTt4 HTab2 HA3
            clear HTt HTt2 HB HB2 HZ HA3 HBb3 HRr3 HZ3 HB3 HTab
            obtain ⟨Wd, hWd⟩ : ∃ Wd, w4.drew = Wd := ⟨_, rfl⟩
            have bd : Below w4.heap.size w4 Wd := by rw [← hWd]; exact Below.drew (Below.refl _ _)
            have HTt5 : Hid (TT Wd w.heap.size p pb va3 vb4 M2) := HTt4.out.new bd
            have HB5 : Hid (Below w.heap.size w Wd) := HB4.out.trans (bd.mono HB4.out.size)
            have y0 : Wd.cell? ⟨q, 0, none⟩ = some (.int .i64 x.k) := (sbox4 ((bd.block q (slt_blk HZ4.out)).trans HZ4.out)).1
            refine wp_calmS ?_
            refine wp_region_L [] (fun w' : World => w'.cell? ⟨q, 0, none⟩ = some (.int .i64 x.k)) (by kernel_rfl) ?_
            rw [hWd]
            clear hWd bd HTt4 HB4 HZ4
            have hS : (fun w' : World => w'.cell? ⟨q, 0, none⟩ = some (.int .i64 x.k)) Wd := y0
            have HML : Hid (M2.length ≤ 1000000) := by show _ ≤ _; have := HTab2.out.few; omega
            have hQ1 := sseq x.k HTt5.out.a HML.out HTab2.out.rise
            refine wpAnyL_take (i := 0) 97 (v := .string t1) rfl rfl (by kernel_rfl) (by kernel_rfl) (by kernel_rfl) (by kernel_rfl) (by kernel_rfl) (by kernel_rfl) (fun _ _ _ h => h) hS (by rfl) (by intro w' hSw; have y0 := hSw; go_simp <;> with_reducible rfl) ?_
            simp only [Act.put, List.setIfInBounds_toArray, List.set_cons_zero, List.set_cons_succ]
            refine wpAnyL_take (i := 1) 98 (v := .string t1) rfl rfl (by kernel_rfl) (by kernel_rfl) (by kernel_rfl) (by kernel_rfl) (by kernel_rfl) (by kernel_rfl) (fun _ _ _ h => h) hS (by rfl) (by intro w' hSw; have y0 := hSw; go_simp <;> with_reducible rfl) ?_
            simp only [Act.put, List.setIfInBounds_toArray, List.set_cons_zero, List.set_cons_succ]
            refine wpAnyL_take (i := 2) 99 (v := .bool false) rfl rfl (by kernel_rfl) (by kernel_rfl) (by kernel_rfl) (by kernel_rfl) (by kernel_rfl) (by kernel_rfl) (fun _ _ _ h => h) hS (by rfl) (by intro w' hSw; have y0 := hSw; go_simp <;> with_reducible rfl) ?_
            simp only [Act.put, List.setIfInBounds_toArray, List.set_cons_zero, List.set_cons_succ]
            refine wpAnyL_take (i := 3) 100 (v := .bool false) rfl rfl (by kernel_rfl) (by kernel_rfl) (by kernel_rfl) (by kernel_rfl) (by kernel_rfl) (by kernel_rfl) (fun _ _ _ h => h) hS (by rfl) (by intro w' hSw; have y0 := hSw; go_simp <;> with_reducible rfl) ?_
            simp only [Act.put, List.setIfInBounds_toArray, List.set_cons_zero, List.set_cons_succ]
            refine wpAnyL_take (i := 4) 101 (v := .bool t2) rfl rfl (by kernel_rfl) (by kernel_rfl) (by kernel_rfl) (by kernel_rfl) (by kernel_rfl) (by kernel_rfl) (fun _ _ _ h => h) hS (by rfl) (by intro w' hSw; have y0 := hSw; go_simp <;> with_reducible rfl) ?_
            simp only [Act.put, List.setIfInBounds_toArray, List.set_cons_zero, List.set_cons_succ]
            refine wpAnyL_take (i := 5) 102 (v := .bool t2) rfl rfl (by kernel_rfl) (by kernel_rfl) (by kernel_rfl) (by kernel_rfl) (by kernel_rfl) (by kernel_rfl) (fun _ _ _ h => h) hS (by rfl) (by intro w' hSw; have y0 := hSw; go_simp <;> with_reducible rfl) ?_
            simp only [Act.put, List.setIfInBounds_toArray, List.set_cons_zero, List.set_cons_succ]
            refine wpAnyL_take (i := 6) 103 (v := .bool false) rfl rfl (by kernel_rfl) (by kernel_rfl) (by kernel_rfl) (by kernel_rfl) (by kernel_rfl) (by kernel_rfl) (fun _ _ _ h => h) hS (by rfl) (by intro w' hSw; have y0 := hSw; go_simp <;> with_reducible rfl) ?_
            simp only [Act.put, List.setIfInBounds_toArray, List.set_cons_zero, List.set_cons_succ]
            refine wpAnyL_take (i := 7) 104 (v := .bool false) rfl rfl (by kernel_rfl) (by kernel_rfl) (by kernel_rfl) (by kernel_rfl) (by kernel_rfl) (by kernel_rfl) (fun _ _ _ h => h) hS (by rfl) (by intro w' hSw; have y0 := hSw; go_simp <;> with_reducible rfl) ?_
            simp only [Act.put, List.setIfInBounds_toArray, List.set_cons_zero, List.set_cons_succ]
            refine wpAnyL_take (i := 8) 105 (v := .bool false) rfl rfl (by kernel_rfl) (by kernel_rfl) (by kernel_rfl) (by kernel_rfl) (by kernel_rfl) (by kernel_rfl) (fun _ _ _ h => h) hS (by rfl) (by intro w' hSw; have y0 := hSw; go_simp <;> with_reducible rfl) ?_
            simp only [Act.put, List.setIfInBounds_toArray, List.set_cons_zero, List.set_cons_succ]
            refine wpAnyL_take (i := 9) 106 (v := .int .i64 t3) rfl rfl (by kernel_rfl) (by kernel_rfl) (by kernel_rfl) (by kernel_rfl) (by kernel_rfl) (by kernel_rfl) (fun _ _ _ h => h) hS (by rfl) (by intro w' hSw; have y0 := hSw; go_simp <;> with_reducible rfl) ?_
            simp only [Act.put, List.setIfInBounds_toArray, List.set_cons_zero, List.set_cons_succ]
            refine wpAnyL_take (i := 10) 107 (v := .int .i64 t3) rfl rfl (by kernel_rfl) (by kernel_rfl) (by kernel_rfl) (by kernel_rfl) (by kernel_rfl) (by kernel_rfl) (fun _ _ _ h => h) hS (by rfl) (by intro w' hSw; have y0 := hSw; go_simp <;> with_reducible rfl) ?_
            simp only [Act.put, List.setIfInBounds_toArray, List.set_cons_zero, List.set_cons_succ]
            refine wpAnyL_take (i := 11) 108 (v := .bool false) rfl rfl (by kernel_rfl) (by kernel_rfl) (by kernel_rfl) (by kernel_rfl) (by kernel_rfl) (by kernel_rfl) (fun _ _ _ h => h) hS (by rfl) (by intro w' hSw; have y0 := hSw; go_simp <;> with_reducible rfl) ?_
            simp only [Act.put, List.setIfInBounds_toArray, List.set_cons_zero, List.set_cons_succ]
            refine wpAnyL_take (i := 12) 109 (v := .bool false) rfl rfl (by kernel_rfl) (by kernel_rfl) (by kernel_rfl) (by kernel_rfl) (by kernel_rfl) (by kernel_rfl) (fun _ _ _ h => h) hS (by rfl) (by intro w' hSw; have y0 := hSw; go_simp <;> with_reducible rfl) ?_
            simp only [Act.put, List.setIfInBounds_toArray, List.set_cons_zero, List.set_cons_succ]
            refine wpAnyL_take (i := 13) 110 (v := .bool false) rfl rfl (by kernel_rfl) (by kernel_rfl) (by kernel_rfl) (by kernel_rfl) (by kernel_rfl) (by kernel_rfl) (fun _ _ _ h => h) hS (by rfl) (by intro w' hSw; have y0 := hSw; go_simp <;> with_reducible rfl) ?_
            simp only [Act.put, List.setIfInBounds_toArray, List.set_cons_zero, List.set_cons_succ]
            refine wpAnyL_take (i := 14) 111 (v := .pointer (some ⟨p, 0, none⟩)) rfl rfl (by kernel_rfl) (by kernel_rfl) (by kernel_rfl) (by kernel_rfl) (by kernel_rfl) (by kernel_rfl) (fun _ _ _ h => h) hS (by rfl) (by intro w' hSw; have y0 := hSw; go_simp <;> with_reducible rfl) ?_
            simp only [Act.put, List.setIfInBounds_toArray, List.set_cons_zero, List.set_cons_succ]
            refine wpAnyL_take (i := 15) 112 (v := .pointer (some ⟨q, 0, none⟩)) rfl rfl (by kernel_rfl) (by kernel_rfl) (by kernel_rfl) (by kernel_rfl) (by kernel_rfl) (by kernel_rfl) (fun _ _ _ h => h) hS (by rfl) (by intro w' hSw; have y0 := hSw; go_simp <;> with_reducible rfl) ?_
            simp only [Act.put, List.setIfInBounds_toArray, List.set_cons_zero, List.set_cons_succ]
            refine wpAnyL_take (i := 16) 113 (v := .int .i64 x.k) rfl rfl (by kernel_rfl) (by kernel_rfl) (by kernel_rfl) (by kernel_rfl) (by kernel_rfl) (by kernel_rfl) (fun _ _ _ h => h) hS (by rfl) (by intro w' hSw; have y0 := hSw; go_simp <;> with_reducible rfl) ?_
            simp only [Act.put, List.setIfInBounds_toArray, List.set_cons_zero, List.set_cons_succ]
            refine wpAnyL_take (i := 18) 115 (v := .pointer (some ⟨pb, 0, none⟩)) rfl rfl (by kernel_rfl) (by kernel_rfl) (by kernel_rfl) (by kernel_rfl) (by kernel_rfl) (by kernel_rfl) (fun _ _ _ h => h) hS (by rfl) (by intro w' hSw; have y0 := hSw; go_simp <;> with_reducible rfl) ?_
            simp only [Act.put, List.setIfInBounds_toArray, List.set_cons_zero, List.set_cons_succ]
            refine wpAnyL_take (i := 19) 116 (v := .pointer (some ⟨q, 0, none⟩)) rfl rfl (by kernel_rfl) (by kernel_rfl) (by kernel_rfl) (by kernel_rfl) (by kernel_rfl) (by kernel_rfl) (fun _ _ _ h => h) hS (by rfl) (by intro w' hSw; have y0 := hSw; go_simp <;> with_reducible rfl) ?_
            simp only [Act.put, List.setIfInBounds_toArray, List.set_cons_zero, List.set_cons_succ]
            refine wpAnyL_take (i := 20) 117 (v := .int .i64 x.k) rfl rfl (by kernel_rfl) (by kernel_rfl) (by kernel_rfl) (by kernel_rfl) (by kernel_rfl) (by kernel_rfl) (fun _ _ _ h => h) hS (by rfl) (by intro w' hSw; have y0 := hSw; go_simp <;> with_reducible rfl) ?_
            simp only [Act.put, List.setIfInBounds_toArray, List.set_cons_zero, List.set_cons_succ]
            refine wpAnyL_one (i := 17) (by kernel_rfl) rfl (fun Ka hKa => ?_)
            go_simp
            refine Calls.mono hQ1 ?_
            rintro r w6 ⟨rfl, hb6⟩
            have y6 : w6.cell? ⟨q, 0, none⟩ = some (.int .i64 x.k) := (hb6.cell (p := ⟨q, 0, none⟩) (slt_cell y0)).trans y0
            refine hKa.out _ _ (fun _ => y6) ?_
            clear hKa Ka
            try simp only [Act.put, List.setIfInBounds_toArray, List.set_cons_zero, List.set_cons_succ]
            have HTt6 : Hid (TT w6 w.heap.size p pb va3 vb4 M2) := HTt5.out.new hb6
            have HB6 : Hid (Below w.heap.size w w6) := HB5.out.trans (hb6.mono HB5.out.size)
            clear hb6 hQ1
            have hQ2 := sseq x.k HTt6.out.b HML.out HTab2.out.rise
            refine wpAnyL_one (i := 21) (by kernel_rfl) rfl (fun Ka hKa => ?_)
            go_simp
            refine Calls.mono hQ2 ?_
            rintro r w7 ⟨rfl, hb7⟩
            have hS7 : (fun w' : World => w'.cell? ⟨q, 0, none⟩ = some (.int .i64 x.k)) w7 := (hb7.cell (p := ⟨q, 0, none⟩) (slt_cell y6)).trans y6
            refine hKa.out _ _ (fun _ => hS7) ?_
            clear hKa Ka
            try simp only [Act.put, List.setIfInBounds_toArray, List.set_cons_zero, List.set_cons_succ]
            have HTt7 : Hid (TT w7 w.heap.size p pb va3 vb4 M2) := HTt6.out.new hb7
            have HB7 : Hid (Below w.heap.size w w7) := HB6.out.trans (hb7.mono HB6.out.size)
            clear hb7 hQ2
            refine wpAnyL_take (i := 22) 119 (v := .bool false) rfl rfl (by kernel_rfl) (by kernel_rfl) (by kernel_rfl) (by kernel_rfl) (by kernel_rfl) (by kernel_rfl) (fun _ _ _ h => h) hS7 (by rfl) (by intro w' hSw; have y0 := hSw; go_simp <;> with_reducible rfl) ?_
            simp only [Act.put, List.setIfInBounds_toArray, List.set_cons_zero, List.set_cons_succ]
            refine wpAnyL_take (i := 23) 120 (v := .bool false) rfl rfl (by kernel_rfl) (by kernel_rfl) (by kernel_rfl) (by kernel_rfl) (by kernel_rfl) (by kernel_rfl) (fun _ _ _ h => h) hS7 (by rfl) (by intro w' hSw; have y0 := hSw; go_simp <;> with_reducible rfl) ?_
            simp only [Act.put, List.setIfInBounds_toArray, List.set_cons_zero, List.set_cons_succ]
            refine wpAnyL_done (by kernel_rfl) ?_ _
            clear hS hS7 y0 y6
            go_wp2
            go_roundw
            case rel => exact ⟨i + 1, M2, va3, vb4, by omega, by omega, by go_num, HTt7, HTab2, HB7⟩
            case measure => simp [intOf]; omega
          · have hML : (M.length : Int) ≤ 64 := by have := HTab.out.few; omega
            by_cases hy1 : i < Y.length
            · have hy2 : ¬ ((i : Int) < 100) := by omega
              have hy3 : (i : Int) < Y.length := by omega
              clear hlt hx
              go_wp2_with (go_at_call 13; refine (len_two HTt.out _ (by first | exact .inl rfl | exact .inr rfl)).mono ?_; rintro r wr ⟨rfl, rfl⟩)
              go_ret
              exact ⟨by simp, HB.out⟩
            · have hy3 : ¬ ((i : Int) < Y.length) := by omega
              clear hlt hx
              go_wp2_with (go_at_call 13; refine (len_two HTt.out _ (by first | exact .inl rfl | exact .inr rfl)).mono ?_; rintro r wr ⟨rfl, rfl⟩)
              go_ret
              exact ⟨by simp, HB.out⟩
      · clear HNx
        go_upto_region 8 with (go_at_call 14; refine (newwriter_any _).mono ?_; rintro r w4 ⟨rfl, hW4, hb4⟩)
        have HT4 : Hid (TA w4 w.heap.size p v L) := HT.out.new hb4
        have HB4 : Hid (Below w.heap.size w w4) := HB.out.trans (hb4.mono HB.out.size)
        have HW4 : Hid (Wr w4 (wr.heap.size + 1) wr.heap.size (.slice none 0 0) []) := hW4
        have HX4 : Hid (w.heap.size ≤ wr.heap.size) := HB.out.size
        clear hW4 hb4
        obtain ⟨pw, hpw⟩ : ∃ pw, wr.heap.size = pw := ⟨_, rfl⟩
        rw [hpw] at HW4 HX4 ⊢
        clear hpw
        have hPu := sput HT4.out HW4.out (by have := HTab.out.few; omega) (fun x hx => ⟨(HOk2.out x hx).1, by have := (HOk2.out x hx).2.1; omega, by have := (HOk2.out x hx).2.2; omega⟩) (by have := HRn.out; simp; omega)
        go_upto_region 9 with (go_at_call 15; refine hPu.mono ?_; rintro r w5 ⟨rfl, hT5⟩)
        have HT5 : Hid (TA w5 w.heap.size p v L) := HT4.out.wrote HW4.out hT5
        obtain ⟨v5, hW5, hF5, hR5⟩ := hT5
        have HW5 : Hid (Wr w5 (pw + 1) pw v5 (tabB L)) := hW5
        have HB5 : Hid (Below w.heap.size w w5) := HB4.out.trans (hF5.below HB4.out.size (fun k hk => by
          have := HX4.out
          rcases hk with hk | hk
          · omega
          · cases hk))
        clear hW5 hF5 hR5 hPu HT4 HB4 HW4 HX4
        have HTk : Hid (∀ W pr, Rd W pr (str (tabB L)) 0 0 → Calls Try.prog 21 #[.pointer (some ⟨pr, 0, none⟩)] W fun r w' => r = .returned (.pointer (some ⟨W.heap.size, 0, none⟩)) ∧ Rd w' pr (str (tabB L)) (tabB L).length 0 ∧ (∃ v, TA w' W.heap.size W.heap.size v L) ∧ Fr W w' (fun k => k = pr)) := fun W pr h => stake_enc HTab.out HOk2.out (by decide) h
        go_upto_region 10 with (first
          | (go_at_call 22; refine (wall_any HW5.out).mono ?_; rintro r w5 ⟨rfl, rfl⟩)
          | (go_at_call 20; refine (newreader_any _ _).mono ?_; rintro r w6 ⟨rfl, hr6, hb6⟩; have HR6 : Hid (Rd w6 w5.heap.size (str (tabB L)) 0 0) := hr6; have HB6 : Hid (Below w5.heap.size w5 w6) := hb6; clear hr6 hb6)
          | (go_at_call 21; refine Calls.mono (HTk.out _ _ HR6.out) ?_; rintro r w7 ⟨rfl, hr7, ⟨v7, ht7⟩, hf7⟩))
        have HB6w : Hid (Below w.heap.size w w6) := HB5.out.trans (HB6.out.mono HB5.out.size)
        have HT6 : Hid (TA w6 w.heap.size p v L) := HT5.out.new HB6.out
        have HTT : Hid (TT w7 w.heap.size p w6.heap.size v v7 L) := by
          refine ⟨HT6.out.reads HR6.out hf7, ht7.lower HB6w.out.size, ?_, fun k hk e => ?_⟩
          · have := HT6.out.lt
            omega
          · have h1 := (HT6.out.row.lt k hk).2
            have h2 := (ht7.row.lt k e).1
            omega
        have HB7 : Hid (Below w.heap.size w w7) := HB6w.out.trans (hf7.below HB6w.out.size (fun k hk => by have := HB5.out.size; omega))
        clear ht7 hr7 hf7 HR6 HB6 HTk HW5 HT5 HB5 HB6w HT6
        obtain ⟨pb, hpb⟩ : ∃ pb, w6.heap.size = pb := ⟨_, rfl⟩
        rw [hpb] at HTT ⊢
        clear hpb
        have hA := awake15 w7
        go_upto_region 12 with (first
          | (go_at_call 7; refine hA.mono ?_; rintro r w8 ⟨rfl, hb8⟩; have HTT8 : Hid (TT w8 w.heap.size p pb v v7 L) := HTT.out.new hb8; have HB8 : Hid (Below w.heap.size w w8) := HB7.out.trans (hb8.mono HB7.out.size); clear hb8)
          | (go_at_call 13; refine (len_two HTT8.out _ (by first | exact .inl rfl | exact .inr rfl)).mono ?_; rintro r w8 ⟨rfl, rfl⟩))
        clear hA HTT HB7 HT HB HOk2 HRn
        go_wp2
        go_loopw [10] (fun i wr => ∃ (j : Nat) (L : List Req) (va vb : Value), j ≤ Y.length ∧ j ≤ 100 ∧ i = .int .i64 j ∧ Hid (TT wr w.heap.size p pb va vb L) ∧ Hid (Tab L) ∧ Hid (Below w.heap.size w wr)) (fun i _ => Y.length - (intOf i).toNat)
        case atStart => exact ⟨0, L, _, _, Nat.zero_le _, Nat.zero_le _, rfl, HTT8, HTab, HB8⟩
        case round =>
          clear HTT8 HB8 HTab
          clear hj hj2
          obtain ⟨i, M, va, vb, hi, hi2, rfl, HTt, HTab, HB⟩ := hrel
          by_cases hlt : i < Y.length ∧ i < 100
          · obtain ⟨hlt, hlt2⟩ := hlt
            obtain ⟨b, off, rfl, hc⟩ := HY.out (by omega)
            obtain ⟨e0, e1, e2, e3⟩ := hc i hlt
            have hbb := slt_cell e0
            have d0 := (HB.out.cell (p := ⟨b, off + i * 4, none⟩) hbb).trans e0
            have d1 := (HB.out.cell (p := ⟨b, off + i * 4 + 1, none⟩) hbb).trans e1
            have d2 := (HB.out.cell (p := ⟨b, off + i * 4 + 2, none⟩) hbb).trans e2
            have d3 := (HB.out.cell (p := ⟨b, off + i * 4 + 3, none⟩) hbb).trans e3
            have HXo : Hid (Y[i].ok) := HO2.out _ (List.getElem_mem hlt)
            generalize Y[i] = x at d0 d1 d2 d3 HXo
            have hin : (i : Int) < Y.length := by omega
            have hi3 : (i : Int) < 100 := by omega
            clear hc e0 e1 e2 e3 hbb hx
            go_upto_region 16 with (fail)
            generalize hW : World.alloc _ _ = W
            have bW : Below wr.heap.size wr W := by rw [← hW]; exact sone_new _ _
            have hZ : W.heap[wr.heap.size]? = some (.cells #[.int .i64 x.k, .int .i64 x.n, .bool x.lk, .string x.s] 28 (0, 0)) := by rw [← hW]; exact heap_alloc_new _ _
            have HTt2 : Hid (TT W w.heap.size p pb va vb M) := HTt.out.new bW
            have HB2 : Hid (Below w.heap.size w W) := HB.out.trans (bW.mono HB.out.size)
            clear hW bW d0 d1 d2 d3
            generalize wr.heap.size = q at hZ ⊢
            have HZ : Hid (W.heap[q]? = some (.cells #[.int .i64 x.k, .int .i64 x.n, .bool x.lk, .string x.s] 28 (0, 0))) := hZ
            obtain ⟨z0, z1, z2, z3⟩ := sbox4 hZ
            have hD := sdo (g := 27) (cb := #[.pointer (some ⟨q, 0, none⟩)]) (s := x.s) (k := x.k) (n := x.n) HTt2.out.a HTab.out HXo.out.2.1 (fun W' hf => tells_b2 (sbox4 (box_left HTt2.out.a HZ.out hf)).2.2.2)
            have HTab2 : Hid (Tab (doL M x.k x.n x.s)) := doL_tab HTab.out _ _ _
            have HD2 : Hid (∀ (W2 : World) (u : Value), TA W2 w.heap.size pb u M → W2.heap[q]? = some (.cells #[.int .i64 x.k, .int .i64 x.n, .bool x.lk, .string x.s] 28 (0, 0)) → Calls Try.prog 10 #[.pointer (some ⟨pb, 0, none⟩), .int .i64 x.k, .int .i64 x.n, .func (.func 28) #[] #[.pointer (some ⟨q, 0, none⟩)]] W2 fun r w' => r = .returned (.tuple #[.string (doA M x.k x.n x.s).1, .bool (doA M x.k x.n x.s).2.1, .int .i64 (doA M x.k x.n x.s).2.2]) ∧ TTo W2 w' w.heap.size pb u (doL M x.k x.n x.s)) := fun W2 u h1 h2 => sdo h1 HTab.out HXo.out.2.1 (fun W' hf => tells_b3 (sbox4 (box_left h1 h2 hf)).2.2.2)
            generalize doA M x.k x.n x.s = t at hD HD2
            obtain ⟨t1, t2, t3⟩ := t
            simp only at hD HD2
            clear hZ
            go_upto_region 17 with (go_at_call 10; refine hD.mono ?_; rintro r w3 ⟨rfl, ht3⟩)
            have HB3 : Hid (Below w.heap.size w w3) := TTo.below HTt2.out.a HB2.out ht3
            have HZ3 : Hid (w3.heap[q]? = some (.cells #[.int .i64 x.k, .int .i64 x.n, .bool x.lk, .string x.s] 28 (0, 0))) := by
              obtain ⟨_, _, hf, _⟩ := ht3
              exact box_left HTt2.out.a HZ.out hf
            obtain ⟨va3, ha3, hb3, hr3⟩ := other_kept HTt2.out.a HTt2.out.b HTt2.out.ne HTt2.out.rows ht3
            have HA3 : Hid (TA w3 w.heap.size p va3 (doL M x.k x.n x.s)) := ha3
            have HBb3 : Hid (TA w3 w.heap.size pb vb M) := hb3
            have HRr3 : Hid (∀ k, va3.ownBlock = some k → vb.ownBlock ≠ some k) := hr3
            have HNe : Hid (p ≠ pb) := HTt2.out.ne
            clear hD ht3 ha3 hb3 hr3 z0 z1 z2 z3
            obtain ⟨z0, z1, z2, z3⟩ := sbox4 HZ3.out
            go_upto_region 18 with (go_at_call 10; refine Calls.mono (HD2.out w3 vb HBb3.out HZ3.out) ?_; rintro r w4 ⟨rfl, ht4⟩)
            have HB4 : Hid (Below w.heap.size w w4) := TTo.below HBb3.out HB3.out ht4
            have HZ4 : Hid (w4.heap[q]? = some (.cells #[.int .i64 x.k, .int .i64 x.n, .bool x.lk, .string x.s] 28 (0, 0))) := by
              obtain ⟨_, _, hf, _⟩ := ht4
              exact box_left HBb3.out HZ3.out hf
            obtain ⟨vb4, hb4, ha4, hr4⟩ := other_kept HBb3.out HA3.out HNe.out.symm (fun k hk e => HRr3.out k e hk) ht4
            have HTt4 : Hid (TT w4 w.heap.size p pb va3 vb4 (doL M x.k x.n x.s)) := ⟨ha4, hb4, HNe.out, fun k hk e => hr4 k e hk⟩
            clear ht4 hb4 ha4 hr4 z0 z1 z2 z3 HD2
            generalize doL M x.k x.n x.s = M2 at HTt4 HTab2 HA3
            clear HTt HTt2 HB HB2 HZ HA3 HBb3 HRr3 HZ3 HB3 HTab
            obtain ⟨Wd, hWd⟩ : ∃ Wd, w4.drew = Wd := ⟨_, rfl⟩
            have bd : Below w4.heap.size w4 Wd := by rw [← hWd]; exact Below.drew (Below.refl _ _)
            have HTt5 : Hid (TT Wd w.heap.size p pb va3 vb4 M2) := HTt4.out.new bd
            have HB5 : Hid (Below w.heap.size w Wd) := HB4.out.trans (bd.mono HB4.out.size)
            have y0 : Wd.cell? ⟨q, 0, none⟩ = some (.int .i64 x.k) := (sbox4 ((bd.block q (slt_blk HZ4.out)).trans HZ4.out)).1
            refine wp_calmS ?_
            refine wp_region_L [] (fun w' : World => w'.cell? ⟨q, 0, none⟩ = some (.int .i64 x.k)) (by kernel_rfl) ?_
            rw [hWd]
            clear hWd bd HTt4 HB4 HZ4
            have hS : (fun w' : World => w'.cell? ⟨q, 0, none⟩ = some (.int .i64 x.k)) Wd := y0
            have HML : Hid (M2.length ≤ 1000000) := by show _ ≤ _; have := HTab2.out.few; omega
            have hQ1 := sseq x.k HTt5.out.a HML.out HTab2.out.rise
            refine wpAnyL_take (i := 0) 97 (v := .string t1) rfl rfl (by kernel_rfl) (by kernel_rfl) (by kernel_rfl) (by kernel_rfl) (by kernel_rfl) (by kernel_rfl) (fun _ _ _ h => h) hS (by rfl) (by intro w' hSw; have y0 := hSw; go_simp <;> with_reducible rfl) ?_
            simp only [Act.put, List.setIfInBounds_toArray, List.set_cons_zero, List.set_cons_succ]
            refine wpAnyL_take (i := 1) 98 (v := .string t1) rfl rfl (by kernel_rfl) (by kernel_rfl) (by kernel_rfl) (by kernel_rfl) (by kernel_rfl) (by kernel_rfl) (fun _ _ _ h => h) hS (by rfl) (by intro w' hSw; have y0 := hSw; go_simp <;> with_reducible rfl) ?_
            simp only [Act.put, List.setIfInBounds_toArray, List.set_cons_zero, List.set_cons_succ]
            refine wpAnyL_take (i := 2) 99 (v := .bool false) rfl rfl (by kernel_rfl) (by kernel_rfl) (by kernel_rfl) (by kernel_rfl) (by kernel_rfl) (by kernel_rfl) (fun _ _ _ h => h) hS (by rfl) (by intro w' hSw; have y0 := hSw; go_simp <;> with_reducible rfl) ?_
            simp only [Act.put, List.setIfInBounds_toArray, List.set_cons_zero, List.set_cons_succ]
            refine wpAnyL_take (i := 3) 100 (v := .bool false) rfl rfl (by kernel_rfl) (by kernel_rfl) (by kernel_rfl) (by kernel_rfl) (by kernel_rfl) (by kernel_rfl) (fun _ _ _ h => h) hS (by rfl) (by intro w' hSw; have y0 := hSw; go_simp <;> with_reducible rfl) ?_
            simp only [Act.put, List.setIfInBounds_toArray, List.set_cons_zero, List.set_cons_succ]
            refine wpAnyL_take (i := 4) 101 (v := .bool t2) rfl rfl (by kernel_rfl) (by kernel_rfl) (by kernel_rfl) (by kernel_rfl) (by kernel_rfl) (by kernel_rfl) (fun _ _ _ h => h) hS (by rfl) (by intro w' hSw; have y0 := hSw; go_simp <;> with_reducible rfl) ?_
            simp only [Act.put, List.setIfInBounds_toArray, List.set_cons_zero, List.set_cons_succ]
            refine wpAnyL_take (i := 5) 102 (v := .bool t2) rfl rfl (by kernel_rfl) (by kernel_rfl) (by kernel_rfl) (by kernel_rfl) (by kernel_rfl) (by kernel_rfl) (fun _ _ _ h => h) hS (by rfl) (by intro w' hSw; have y0 := hSw; go_simp <;> with_reducible rfl) ?_
            simp only [Act.put, List.setIfInBounds_toArray, List.set_cons_zero, List.set_cons_succ]
            refine wpAnyL_take (i := 6) 103 (v := .bool false) rfl rfl (by kernel_rfl) (by kernel_rfl) (by kernel_rfl) (by kernel_rfl) (by kernel_rfl) (by kernel_rfl) (fun _ _ _ h => h) hS (by rfl) (by intro w' hSw; have y0 := hSw; go_simp <;> with_reducible rfl) ?_
            simp only [Act.put, List.setIfInBounds_toArray, List.set_cons_zero, List.set_cons_succ]
            refine wpAnyL_take (i := 7) 104 (v := .bool false) rfl rfl (by kernel_rfl) (by kernel_rfl) (by kernel_rfl) (by kernel_rfl) (by kernel_rfl) (by kernel_rfl) (fun _ _ _ h => h) hS (by rfl) (by intro w' hSw; have y0 := hSw; go_simp <;> with_reducible rfl) ?_
            simp only [Act.put, List.setIfInBounds_toArray, List.set_cons_zero, List.set_cons_succ]
            refine wpAnyL_take (i := 8) 105 (v := .bool false) rfl rfl (by kernel_rfl) (by kernel_rfl) (by kernel_rfl) (by kernel_rfl) (by kernel_rfl) (by kernel_rfl) (fun _ _ _ h => h) hS (by rfl) (by intro w' hSw; have y0 := hSw; go_simp <;> with_reducible rfl) ?_
            simp only [Act.put, List.setIfInBounds_toArray, List.set_cons_zero, List.set_cons_succ]
            refine wpAnyL_take (i := 9) 106 (v := .int .i64 t3) rfl rfl (by kernel_rfl) (by kernel_rfl) (by kernel_rfl) (by kernel_rfl) (by kernel_rfl) (by kernel_rfl) (fun _ _ _ h => h) hS (by rfl) (by intro w' hSw; have y0 := hSw; go_simp <;> with_reducible rfl) ?_
            simp only [Act.put, List.setIfInBounds_toArray, List.set_cons_zero, List.set_cons_succ]
            refine wpAnyL_take (i := 10) 107 (v := .int .i64 t3) rfl rfl (by kernel_rfl) (by kernel_rfl) (by kernel_rfl) (by kernel_rfl) (by kernel_rfl) (by kernel_rfl) (fun _ _ _ h => h) hS (by rfl) (by intro w' hSw; have y0 := hSw; go_simp <;> with_reducible rfl) ?_
            simp only [Act.put, List.setIfInBounds_toArray, List.set_cons_zero, List.set_cons_succ]
            refine wpAnyL_take (i := 11) 108 (v := .bool false) rfl rfl (by kernel_rfl) (by kernel_rfl) (by kernel_rfl) (by kernel_rfl) (by kernel_rfl) (by kernel_rfl) (fun _ _ _ h => h) hS (by rfl) (by intro w' hSw; have y0 := hSw; go_simp <;> with_reducible rfl) ?_
            simp only [Act.put, List.setIfInBounds_toArray, List.set_cons_zero, List.set_cons_succ]
            refine wpAnyL_take (i := 12) 109 (v := .bool false) rfl rfl (by kernel_rfl) (by kernel_rfl) (by kernel_rfl) (by kernel_rfl) (by kernel_rfl) (by kernel_rfl) (fun _ _ _ h => h) hS (by rfl) (by intro w' hSw; have y0 := hSw; go_simp <;> with_reducible rfl) ?_
            simp only [Act.put, List.setIfInBounds_toArray, List.set_cons_zero, List.set_cons_succ]
            refine wpAnyL_take (i := 13) 110 (v := .bool false) rfl rfl (by kernel_rfl) (by kernel_rfl) (by kernel_rfl) (by kernel_rfl) (by kernel_rfl) (by kernel_rfl) (fun _ _ _ h => h) hS (by rfl) (by intro w' hSw; have y0 := hSw; go_simp <;> with_reducible rfl) ?_
            simp only [Act.put, List.setIfInBounds_toArray, List.set_cons_zero, List.set_cons_succ]
            refine wpAnyL_take (i := 14) 111 (v := .pointer (some ⟨p, 0, none⟩)) rfl rfl (by kernel_rfl) (by kernel_rfl) (by kernel_rfl) (by kernel_rfl) (by kernel_rfl) (by kernel_rfl) (fun _ _ _ h => h) hS (by rfl) (by intro w' hSw; have y0 := hSw; go_simp <;> with_reducible rfl) ?_
            simp only [Act.put, List.setIfInBounds_toArray, List.set_cons_zero, List.set_cons_succ]
            refine wpAnyL_take (i := 15) 112 (v := .pointer (some ⟨q, 0, none⟩)) rfl rfl (by kernel_rfl) (by kernel_rfl) (by kernel_rfl) (by kernel_rfl) (by kernel_rfl) (by kernel_rfl) (fun _ _ _ h => h) hS (by rfl) (by intro w' hSw; have y0 := hSw; go_simp <;> with_reducible rfl) ?_
            simp only [Act.put, List.setIfInBounds_toArray, List.set_cons_zero, List.set_cons_succ]
            refine wpAnyL_take (i := 16) 113 (v := .int .i64 x.k) rfl rfl (by kernel_rfl) (by kernel_rfl) (by kernel_rfl) (by kernel_rfl) (by kernel_rfl) (by kernel_rfl) (fun _ _ _ h => h) hS (by rfl) (by intro w' hSw; have y0 := hSw; go_simp <;> with_reducible rfl) ?_
            simp only [Act.put, List.setIfInBounds_toArray, List.set_cons_zero, List.set_cons_succ]
            refine wpAnyL_take (i := 18) 115 (v := .pointer (some ⟨pb, 0, none⟩)) rfl rfl (by kernel_rfl) (by kernel_rfl) (by kernel_rfl) (by kernel_rfl) (by kernel_rfl) (by kernel_rfl) (fun _ _ _ h => h) hS (by rfl) (by intro w' hSw; have y0 := hSw; go_simp <;> with_reducible rfl) ?_
            simp only [Act.put, List.setIfInBounds_toArray, List.set_cons_zero, List.set_cons_succ]
            refine wpAnyL_take (i := 19) 116 (v := .pointer (some ⟨q, 0, none⟩)) rfl rfl (by kernel_rfl) (by kernel_rfl) (by kernel_rfl) (by kernel_rfl) (by kernel_rfl) (by kernel_rfl) (fun _ _ _ h => h) hS (by rfl) (by intro w' hSw; have y0 := hSw; go_simp <;> with_reducible rfl) ?_
            simp only [Act.put, List.setIfInBounds_toArray, List.set_cons_zero, List.set_cons_succ]
            refine wpAnyL_take (i := 20) 117 (v := .int .i64 x.k) rfl rfl (by kernel_rfl) (by kernel_rfl) (by kernel_rfl) (by kernel_rfl) (by kernel_rfl) (by kernel_rfl) (fun _ _ _ h => h) hS (by rfl) (by intro w' hSw; have y0 := hSw; go_simp <;> with_reducible rfl) ?_
            simp only [Act.put, List.setIfInBounds_toArray, List.set_cons_zero, List.set_cons_succ]
            refine wpAnyL_one (i := 17) (by kernel_rfl) rfl (fun Ka hKa => ?_)
            go_simp
            refine Calls.mono hQ1 ?_
            rintro r w6 ⟨rfl, hb6⟩
            have y6 : w6.cell? ⟨q, 0, none⟩ = some (.int .i64 x.k) := (hb6.cell (p := ⟨q, 0, none⟩) (slt_cell y0)).trans y0
            refine hKa.out _ _ (fun _ => y6) ?_
            clear hKa Ka
            try simp only [Act.put, List.setIfInBounds_toArray, List.set_cons_zero, List.set_cons_succ]
            have HTt6 : Hid (TT w6 w.heap.size p pb va3 vb4 M2) := HTt5.out.new hb6
            have HB6 : Hid (Below w.heap.size w w6) := HB5.out.trans (hb6.mono HB5.out.size)
            clear hb6 hQ1
            have hQ2 := sseq x.k HTt6.out.b HML.out HTab2.out.rise
            refine wpAnyL_one (i := 21) (by kernel_rfl) rfl (fun Ka hKa => ?_)
            go_simp
            refine Calls.mono hQ2 ?_
            rintro r w7 ⟨rfl, hb7⟩
            have hS7 : (fun w' : World => w'.cell? ⟨q, 0, none⟩ = some (.int .i64 x.k)) w7 := (hb7.cell (p := ⟨q, 0, none⟩) (slt_cell y6)).trans y6
            refine hKa.out _ _ (fun _ => hS7) ?_
            clear hKa Ka
            try simp only [Act.put, List.setIfInBounds_toArray, List.set_cons_zero, List.set_cons_succ]
            have HTt7 : Hid (TT w7 w.heap.size p pb va3 vb4 M2) := HTt6.out.new hb7
            have HB7 : Hid (Below w.heap.size w w7) := HB6.out.trans (hb7.mono HB6.out.size)
            clear hb7 hQ2
            refine wpAnyL_take (i := 22) 119 (v := .bool false) rfl rfl (by kernel_rfl) (by kernel_rfl) (by kernel_rfl) (by kernel_rfl) (by kernel_rfl) (by kernel_rfl) (fun _ _ _ h => h) hS7 (by rfl) (by intro w' hSw; have y0 := hSw; go_simp <;> with_reducible rfl) ?_
            simp only [Act.put, List.setIfInBounds_toArray, List.set_cons_zero, List.set_cons_succ]
            refine wpAnyL_take (i := 23) 120 (v := .bool false) rfl rfl (by kernel_rfl) (by kernel_rfl) (by kernel_rfl) (by kernel_rfl) (by kernel_rfl) (by kernel_rfl) (fun _ _ _ h => h) hS7 (by rfl) (by intro w' hSw; have y0 := hSw; go_simp <;> with_reducible rfl) ?_
            simp only [Act.put, List.setIfInBounds_toArray, List.set_cons_zero, List.set_cons_succ]
            refine wpAnyL_done (by kernel_rfl) ?_ _
            clear hS hS7 y0 y6
            go_wp2
            go_roundw
            case rel => exact ⟨i + 1, M2, va3, vb4, by omega, by omega, by go_num, HTt7, HTab2, HB7⟩
            case measure => simp [intOf]; omega
          · have hML : (M.length : Int) ≤ 64 := by have := HTab.out.few; omega
            by_cases hy1 : i < Y.length
            · have hy2 : ¬ ((i : Int) < 100) := by omega
              have hy3 : (i : Int) < Y.length := by omega
              clear hlt hx
              go_wp2_with (go_at_call 13; refine (len_two HTt.out _ (by first | exact .inl rfl | exact .inr rfl)).mono ?_; rintro r wr ⟨rfl, rfl⟩)
              go_ret
              exact ⟨by simp, HB.out⟩
            · have hy3 : ¬ ((i : Int) < Y.length) := by omega
              clear hlt hx
              go_wp2_with (go_at_call 13; refine (len_two HTt.out _ (by first | exact .inl rfl | exact .inr rfl)).mono ?_; rintro r wr ⟨rfl, rfl⟩)
              go_ret
              exact ⟨by simp, HB.out⟩
end Go.Proofs.Ytdnakakichblgaa
