import Derived.Test.YtjemnkijoiehmaaGreatDoorStSbM
/- store: use: a number's text in memory, others on the disk. -/
namespace Go.Proofs.YtjemnkijoiehmaaGreatDoor
open Go.RowKit Go.Maps
variable {Xm : Nat → Prop}
attribute [local go_sem] Oper.semAt_some
/-- What stands while texts go to the disk. -/
structure Going (Ym : Nat → Prop) (w1 wr : World) (B p : Nat) (A' : Dk) : Prop where
  fr : FrD Ym B w1 wr
  dk : DkAt Ym wr B p A'
theorem Going.low {Ym : Nat → Prop} {w1 wr : World} {B p : Nat} {A' : Dk} (h : Going Ym w1 wr B p A') : w1.heap.size ≤ wr.heap.size := h.fr.size
section
variable {w : World} {B q p c : Nat} {K : St} {A : Dk} {mb : Option Nat} {mv : Value} {n : Int} {t : Bs}
set_option linter.unusedSimpArgs false in
set_option maxRecDepth 100000 in
set_option maxHeartbeats 2000000 in
theorem suse (h : SA0 Xm w B q p K A c mb mv) (hB : B ≤ w.heap.size) (hc : c ≤ 900000) (h0 : 0 ≤ n) (h1 : n < 16) (ht : t.length ≤ 140737488351232) (hsp : K.sp ≤ 1000000) : Calls Tryz.prog 19 #[.pointer (some ⟨q, 0, none⟩), .int .i64 n, .string (str t)] w fun r w' => r = .returned (.int .i64 0) ∧ SA Xm w' B q p (K.use n t) (c + 16) ∧ FrT Xm B w w' := by
  have hfew := h.ok.few
  have hCh := schoose (n := n) (t := t) h.blk h.tx h.mem.toS hfew (fun x hx => by have := h.ok.sup x (h.ok.sub x hx); exact i6_few this.1 this.2) h.ok.lenH h.ok.bud ht
  change Calls _ _ _ _ (fun r w' => ∃ vg vs, r = .returned (.tuple #[vg, vs]) ∧ NrO w' w.heap.size vg ((woI K.near n).take (K.go n t)) ∧ NrO w' w.heap.size vs ((woI K.near n).drop (K.go n t)) ∧ Below w.heap.size w w') at hCh
  have HH : Hid (SA0 Xm w B q p K A c mb mv) := h
  have hG : ∀ m ∈ (woI K.near n).take (K.go n t), m ∈ K.near := fun m hm => (mem_woI.1 (List.mem_of_mem_take hm)).1
  obtain ⟨G, hGe⟩ : ∃ G, (woI K.near n).take (K.go n t) = G := ⟨_, rfl⟩
  have HGe : Hid ((woI K.near n).take (K.go n t) = G) := hGe
  rw [hGe] at hCh hG
  have hGl : G.length ≤ 16 := by rw [← hGe, List.length_take]; have := woI_le K.near n; omega
  have HK : Hid (∀ k (hk : k < G.length), 0 ≤ G[k] ∧ G[k] < 16 ∧ ∃ s, K.f G[k] = some s ∧ s.length ≤ 140737488351232 ∧ heldO K.f K.near G[k] = some ⟨s, false, 0⟩) := fun k hk => by
    have hm := hG _ (List.getElem_mem hk)
    have hr := h.ok.sup _ (h.ok.sub _ hm)
    obtain ⟨s, hs⟩ := Option.isSome_iff_exists.1 (h.ok.sub _ hm)
    exact ⟨hr.1, hr.2, s, hs, h.ok.siz _ _ hs, heldO_near hs hm⟩
  have HB : Hid (B ≤ w.heap.size) := hB
  have HC : Hid (c ≤ 900000) := hc
  have HNd : Hid G.Nodup := by show G.Nodup; rw [← hGe]; exact take_nodup (woI_nodup h.ok.nd) _
  have HGl : Hid (G.length = K.go n t) := by
    show _ = _
    rw [← hGe, List.length_take]
    exact Nat.min_eq_left (goN_le _ _ _ _)
  have HLs : Hid (((woI K.near n).drop (K.go n t)).length + 1 ≤ 2000000000) := by
    show _ ≤ _
    rw [List.length_drop]
    have := woI_le K.near n
    omega
  clear h hGe hB hc hG
  obtain ⟨n0, hn0⟩ : ∃ n0, G.length = n0 := ⟨_, rfl⟩
  have HN : Hid (G.length = n0) := hn0
  have hn16 : n0 ≤ 16 := by omega
  clear hn0 hGl hfew
  go_enter Tryz.func19, Tryz.ntmps19
  go_upto_region 2 with (go_at_call 31; refine Calls.mono hCh ?_; rintro r w1 ⟨vg, vs, rfl, e1, e2, e3⟩; have HVG : Hid (NrO w1 w.heap.size vg G) := e1; have HVS : Hid (NrO w1 w.heap.size vs ((woI K.near n).drop (K.go n t))) := e2; have HB1 : Hid (Below w.heap.size w w1) := e3; clear e1 e2 e3 hCh)
  have HH1 : Hid (SA0 Xm w1 B q p K A c mb mv) := HH.out.new HB1.out
  have HBb : Hid (B ≤ w1.heap.size) := Nat.le_trans HB.out HB1.out.size
  obtain ⟨ao, cp, hsh⟩ := HVG.out.shape
  rw [HN.out] at hsh
  subst hsh
  go_wp2
  go_loopw [23] (fun i wr => ∃ k : Nat, k ≤ n0 ∧ i = .int .i64 k ∧ Going (fun k => Xm k ∨ mb = some k) w1 wr B p (wrA K.f A (G.take k))) (fun i _ => n0 - (intOf i).toNat)
  case atStart => exact ⟨0, Nat.zero_le _, rfl, FrD.refl _ _, HH1.out.dk⟩
  case round =>
    obtain ⟨k, hk, rfl, hgo⟩ := hrel
    have HGo : Hid (Going (fun k => Xm k ∨ mb = some k) w1 wr B p (wrA K.f A (G.take k))) := hgo
    clear hgo
    by_cases hlt : k < n0
    · have hk2 : k < G.length := by have := HN.out; omega
      obtain ⟨z0, z1, s, hs, hsl, hheld⟩ := HK.out k hk2
      have hblk : StBl wr q p K.bud K.sp mb mv := HH1.out.blk.frD HGo.out.fr
      have htx : IMo lvH wr mb (heldO K.f K.near) := HH1.out.tx.kept HGo.out.fr (fun j e s => s.2.2 (.inr e))
      have hlk := htx.look mtH (i6_few z0 z1)
      rw [hheld] at hlk
      change _ = Result.ok (Value.agg #[.string (str s), .bool false, .int .u32 0]) wr at hlk
      have hcell : ∃ b off, ao = some ⟨b, off, none⟩ ∧ n0 ≤ cp ∧ wr.cell? ⟨b, off + k, none⟩ = some (.int .i64 G[k]) := by
        rcases NrO.frD HVG.out HGo.out.fr with ⟨e1, e2⟩ | ⟨gg, off, cap, e1, e2, e3, e4, e5, e6⟩
        · rw [e2] at hk2; cases hk2
        · cases e1
          exact ⟨gg, off, rfl, by have := HN.out; omega, e6 k hk2⟩
      obtain ⟨gb, off, rfl, hcap, hc⟩ := hcell
      have HWr : Hid (wrA K.f A (G.take (k + 1)) = (wrA K.f A (G.take k)).add ⟨1, fnm G[k], [], frameB s⟩) := by
        show _ = _
        rw [List.take_succ_eq_append_getElem hk2, wrA_snoc, hs]
        rfl
      have hdi : DkI (wrA K.f A (G.take k)) (c + 16) := by
        refine (wrA_ok HH1.out.di (G.take k) (fun m hm => ?_)).mono (by rw [List.length_take]; have := HN.out; omega)
        obtain ⟨j, hj, e⟩ := List.getElem_of_mem (List.mem_of_mem_take hm)
        obtain ⟨_, _, s', hs', hl', _⟩ := HK.out j hj
        rw [← e, hs']
        exact hl'
      have HDi : Hid (DkI (wrA K.f A (G.take k)) (c + 16)) := hdi
      have HLk : Hid (∀ W, Below wr.heap.size wr W → (W.cell? ⟨q, 0, none⟩ = some (.pointer (some ⟨p, 0, none⟩)) ∧ W.cell? ⟨q, 2, none⟩ = some (.map mb) ∧ (Instr.lookup 47 (.map mb) (.int .i64 G[k]) false).run Tryz.prog W = .ok (.agg #[.string (str s), .bool false, .int .u32 0]) W)) := fun W hW => by
        have b1 := hblk.new hW
        have b2 := (htx.kept (Fr.ofBelow hW (fun _ => False)) (fun _ _ f => f)).look mtH (i6_few z0 z1)
        rw [hheld] at b2
        exact ⟨b1.cells.1, b1.cells.2.2.1, b2⟩
      clear hblk htx hdi hs hlk hheld
      generalize G[k] = m at z0 z1 HWr HLk hc
      clear hk2
      go_upto_region 5 with (fail)
      have hS := HLk.out wr (Below.refl _ _)
      obtain ⟨Wd, hWd⟩ : ∃ Wd, wr.drew = Wd := ⟨_, rfl⟩
      have bd : Below wr.heap.size wr Wd := by rw [← hWd]; exact Below.drew (Below.refl _ _)
      have hS := HLk.out Wd bd
      have HBd : Hid (Below wr.heap.size wr Wd) := bd
      refine wp_calmD ?_
      refine wp_region_L [14] (fun W : World => W.cell? ⟨q, 0, none⟩ = some (.pointer (some ⟨p, 0, none⟩)) ∧ W.cell? ⟨q, 2, none⟩ = some (.map mb) ∧ (Instr.lookup 47 (.map mb) (.int .i64 m) false).run Tryz.prog W = .ok (.agg #[.string (str s), .bool false, .int .u32 0]) W) (by kernel_rfl) ?_
      rw [hWd]
      clear hWd bd hc
      have hf := hfld
      refine wpAnyL_take (i := 0) 27 (v := .pointer (some ⟨q, 0, none⟩)) rfl rfl (by kernel_rfl) (by kernel_rfl) (by kernel_rfl) (by kernel_rfl) (by kernel_rfl) (by kernel_rfl) (fun _ _ _ h => h) hS (by rfl) (by intro w' hSw; obtain ⟨y0, y1, y2⟩ := hSw; go_simp <;> with_reducible rfl) ?_
      simp only [Act.put, List.setIfInBounds_toArray, List.set_cons_zero, List.set_cons_succ]
      refine wpAnyL_take (i := 1) 28 (v := .pointer (some ⟨q, 0, none⟩)) rfl rfl (by kernel_rfl) (by kernel_rfl) (by kernel_rfl) (by kernel_rfl) (by kernel_rfl) (by kernel_rfl) (fun _ _ _ h => h) hS (by rfl) (by intro w' hSw; obtain ⟨y0, y1, y2⟩ := hSw; go_simp <;> with_reducible rfl) ?_
      simp only [Act.put, List.setIfInBounds_toArray, List.set_cons_zero, List.set_cons_succ]
      refine wpAnyL_take (i := 2) 29 (v := .pointer (some ⟨q, 0, none⟩)) rfl rfl (by kernel_rfl) (by kernel_rfl) (by kernel_rfl) (by kernel_rfl) (by kernel_rfl) (by kernel_rfl) (fun _ _ _ h => h) hS (by rfl) (by intro w' hSw; obtain ⟨y0, y1, y2⟩ := hSw; go_simp <;> with_reducible rfl) ?_
      simp only [Act.put, List.setIfInBounds_toArray, List.set_cons_zero, List.set_cons_succ]
      refine wpAnyL_take (i := 3) 30 (v := .pointer (some ⟨p, 0, none⟩)) rfl rfl (by kernel_rfl) (by kernel_rfl) (by kernel_rfl) (by kernel_rfl) (by kernel_rfl) (by kernel_rfl) (fun _ _ _ h => h) hS (by rfl) (by intro w' hSw; obtain ⟨y0, y1, y2⟩ := hSw; go_simp <;> with_reducible rfl) ?_
      simp only [Act.put, List.setIfInBounds_toArray, List.set_cons_zero, List.set_cons_succ]
      refine wpAnyL_take (i := 4) 31 (v := .int .i64 m) rfl rfl (by kernel_rfl) (by kernel_rfl) (by kernel_rfl) (by kernel_rfl) (by kernel_rfl) (by kernel_rfl) (fun _ _ _ h => h) hS (by rfl) (by intro w' hSw; obtain ⟨y0, y1, y2⟩ := hSw; go_simp <;> with_reducible rfl) ?_
      simp only [Act.put, List.setIfInBounds_toArray, List.set_cons_zero, List.set_cons_succ]
      refine wpAnyL_take (i := 6) 33 (v := .pointer (some ⟨q, 0, none⟩)) rfl rfl (by kernel_rfl) (by kernel_rfl) (by kernel_rfl) (by kernel_rfl) (by kernel_rfl) (by kernel_rfl) (fun _ _ _ h => h) hS (by rfl) (by intro w' hSw; obtain ⟨y0, y1, y2⟩ := hSw; go_simp <;> with_reducible rfl) ?_
      simp only [Act.put, List.setIfInBounds_toArray, List.set_cons_zero, List.set_cons_succ]
      refine wpAnyL_take (i := 7) 34 (v := .pointer (some ⟨q, 0, none⟩)) rfl rfl (by kernel_rfl) (by kernel_rfl) (by kernel_rfl) (by kernel_rfl) (by kernel_rfl) (by kernel_rfl) (fun _ _ _ h => h) hS (by rfl) (by intro w' hSw; obtain ⟨y0, y1, y2⟩ := hSw; go_simp <;> with_reducible rfl) ?_
      simp only [Act.put, List.setIfInBounds_toArray, List.set_cons_zero, List.set_cons_succ]
      refine wpAnyL_take (i := 8) 35 (v := .pointer (some ⟨q, 2, none⟩)) rfl rfl (by kernel_rfl) (by kernel_rfl) (by kernel_rfl) (by kernel_rfl) (by kernel_rfl) (by kernel_rfl) (fun _ _ _ h => h) hS (by rfl) (by intro w' hSw; obtain ⟨y0, y1, y2⟩ := hSw; go_simp <;> with_reducible rfl) ?_
      simp only [Act.put, List.setIfInBounds_toArray, List.set_cons_zero, List.set_cons_succ]
      refine wpAnyL_take (i := 9) 36 (v := .map mb) rfl rfl (by kernel_rfl) (by kernel_rfl) (by kernel_rfl) (by kernel_rfl) (by kernel_rfl) (by kernel_rfl) (fun _ _ _ h => h) hS (by rfl) (by intro w' hSw; obtain ⟨y0, y1, y2⟩ := hSw; go_simp <;> with_reducible rfl) ?_
      simp only [Act.put, List.setIfInBounds_toArray, List.set_cons_zero, List.set_cons_succ]
      refine wpAnyL_take (i := 10) 37 (v := .int .i64 m) rfl rfl (by kernel_rfl) (by kernel_rfl) (by kernel_rfl) (by kernel_rfl) (by kernel_rfl) (by kernel_rfl) (fun _ _ _ h => h) hS (by rfl) (by intro w' hSw; obtain ⟨y0, y1, y2⟩ := hSw; go_simp <;> with_reducible rfl) ?_
      simp only [Act.put, List.setIfInBounds_toArray, List.set_cons_zero, List.set_cons_succ]
      refine wpAnyL_take (i := 11) 38 (v := .agg #[.string (str s), .bool false, .int .u32 0]) rfl rfl (by kernel_rfl) (by kernel_rfl) (by kernel_rfl) (by kernel_rfl) (by kernel_rfl) (by kernel_rfl) (fun _ _ _ h => h) hS (by rfl) (by intro w' hSw; obtain ⟨y0, y1, y2⟩ := hSw; go_simp <;> with_reducible rfl) ?_
      simp only [Act.put, List.setIfInBounds_toArray, List.set_cons_zero, List.set_cons_succ]
      refine wpAnyL_take (i := 12) 39 (v := .string (str s)) rfl rfl (by kernel_rfl) (by kernel_rfl) (by kernel_rfl) (by kernel_rfl) (by kernel_rfl) (by kernel_rfl) (fun _ _ _ h => h) hS (by rfl) (by intro w' hSw; obtain ⟨y0, y1, y2⟩ := hSw; go_simp <;> with_reducible rfl) ?_
      simp only [Act.put, List.setIfInBounds_toArray, List.set_cons_zero, List.set_cons_succ]
      have hN := fun W => sname z0 z1 W
      have hFr := fun W => sframe hsl W
      refine wpAnyL_one (i := 5) (by kernel_rfl) rfl (fun Ka hKa => ?_)
      go_simp
      refine Calls.mono (hN _) ?_
      rintro r w5 ⟨rfl, hw5⟩
      rw [hw5]
      refine hKa.out _ _ (fun _ => hS) ?_
      clear hKa Ka hw5
      try simp only [Act.put, List.setIfInBounds_toArray, List.set_cons_zero, List.set_cons_succ]
      refine wpAnyL_one (i := 13) (by kernel_rfl) rfl (fun Ka hKa => ?_)
      go_simp
      refine Calls.mono (hFr _) ?_
      rintro r w6 ⟨rfl, hb6⟩
      have HB6 : Hid (Below wr.heap.size wr w6) := HBd.out.trans (hb6.mono HBd.out.size)
      have hS6 := HLk.out w6 HB6.out
      refine hKa.out _ _ (fun _ => hS6) ?_
      clear hKa Ka hb6
      try simp only [Act.put, List.setIfInBounds_toArray, List.set_cons_zero, List.set_cons_succ]
      refine wpAnyL_one (i := 14) (by kernel_rfl) rfl (fun Ka hKa => ?_)
      go_simp
      refine Calls.mono (swrite (HGo.out.dk.new HB6.out) (Nat.le_trans (Nat.le_trans HBb.out HGo.out.low) HB6.out.size) HDi.out (by have := HC.out; omega) z0 z1 hsl) ?_
      rintro r w7 ⟨rfl, hD7, hF7⟩
      refine hKa.out _ _ (fun h => absurd h (Bool.eq_false_iff.1 (by kernel_rfl))) ?_
      clear hKa Ka
      try simp only [Act.put, List.setIfInBounds_toArray, List.set_cons_zero, List.set_cons_succ]
      have HGo7 : Hid (Going (fun k => Xm k ∨ mb = some k) w1 w7 B p (wrA K.f A (G.take (k + 1)))) := by
        show Going _ _ _ _ _ _
        rw [HWr.out]
        exact ⟨HGo.out.fr.trans ((FrD.new HB6.out).trans hF7), hD7⟩
      clear hD7 hF7
      refine wpAnyL_one (i := 15) (by kernel_rfl) rfl (fun Ka hKa => ?_)
      go_simp
      refine hKa.out _ _ (fun h => absurd h (Bool.eq_false_iff.1 (by kernel_rfl))) ?_
      clear hKa Ka
      try simp only [Act.put, List.setIfInBounds_toArray, List.set_cons_zero, List.set_cons_succ]
      refine wpAnyL_done (by kernel_rfl) ?_ _
      clear hS hS6 hN hFr hf
      go_wp2
      go_roundw
      case rel => exact ⟨k + 1, hlt, by go_num, HGo7.out⟩
      case measure => simp [intOf]; omega
    · obtain rfl : k = n0 := by omega
      have HGo2 : Hid (Going (fun k => Xm k ∨ mb = some k) w1 wr B p (wrA K.f A G)) := by
        have := HGo.out
        rw [List.take_of_length_le (by have := HN.out; omega)] at this
        exact this
      have HT0 : Hid (IMo lvH wr mb (heldO K.f K.near)) := HH1.out.tx.kept HGo2.out.fr (fun j e s => s.2.2 (.inr e))
      have HBl : Hid (StBl wr q p K.bud K.sp mb mv) := HH1.out.blk.frD HGo2.out.fr
      have HVl : Hid (NrO wr w.heap.size (.slice ao k cp) G) := NrO.frD HVG.out HGo2.out.fr
      have HVs : Hid (NrO wr w.heap.size vs ((woI K.near n).drop (K.go n t))) := NrO.frD HVS.out HGo2.out.fr
      have HFl : Hid (FrT Xm B w wr) := (FrT.new HB1.out).trans (HGo2.out.fr.toT (fun _ => .inl))
      clear HGo HVG HVS
      go_wp2
      obtain ⟨wl, rfl⟩ : ∃ wl, wl = wr := ⟨wr, rfl⟩
      go_loopw [48] (fun i wx => ∃ j : Nat, j ≤ k ∧ i = .int .i64 j ∧ IMo lvH wx mb (awayO K.f (heldO K.f K.near) (G.take j)) ∧ Fr wl wx (fun x => mb = some x)) (fun i _ => k - (intOf i).toNat)
      case atStart => exact ⟨0, Nat.zero_le _, rfl, HT0.out, Fr.refl _ _⟩
      case round =>
        obtain ⟨j, hj, rfl, hm2, hf2⟩ := hrel
        have HM2 : Hid (IMo lvH wr mb (awayO K.f (heldO K.f K.near) (G.take j))) := hm2
        have HF2 : Hid (Fr wl wr (fun x => mb = some x)) := hf2
        clear hm2 hf2
        have htm : ∀ x, mb = some x → ∃ es c, wl.heap[x]? = some (.map es c) := fun x e => by
          have := HT0.out
          subst e
          exact IMp.isMap this
        have hqb : ∀ x, mb = some x → q ≠ x := fun x e e2 => by
          obtain ⟨es, c', hm⟩ := htm x e
          rw [← e2, HBl.out] at hm
          cases hm
        have HBl2 : Hid (StBl wr q p K.bud K.sp mb mv) := (HF2.out.block q (lt_blk HBl.out) (fun e => hqb q e rfl)).trans HBl.out
        have htv : ∀ v R, NrO wl w.heap.size v R → NrO wr w.heap.size v R := fun v R hv => hv.kept HF2.out (fun x e e2 => by
          obtain ⟨es, c', hm⟩ := htm x e2
          obtain ⟨_, c'', f'', hm'⟩ := hv.tag e
          rw [hm] at hm'
          cases hm')
        have HVl2 : Hid (NrO wr w.heap.size (.slice ao k cp) G) := htv _ _ HVl.out
        have HVs2 : Hid (NrO wr w.heap.size vs ((woI K.near n).drop (K.go n t))) := htv _ _ HVs.out
        have HFl2 : Hid (FrT Xm B w wr) := HFl.out.trans (Fr.mono HF2.out (fun x _ e => ⟨HH1.out.hm x e, .inl (htm x e), HH1.out.nm x e⟩))
        clear htm hqb htv
        by_cases hlj : j < k
        · have hj2 : j < G.length := by have := HN.out; omega
          obtain ⟨z0, z1, s, hs, hsl, hheld⟩ := HK.out j hj2
          obtain ⟨b, rfl⟩ : ∃ b, mb = some b := by
            cases mb with
            | none =>
              have e : heldO K.f K.near = noneO := HT0.out
              rw [e] at hheld
              cases hheld
            | some b => exact ⟨b, rfl⟩
          have hmp : IMp lvH wr b (awayO K.f (heldO K.f K.near) (G.take j)) := HM2.out
          have hgj : awayO K.f (heldO K.f K.near) (G.take j) G[j] = some ⟨s, false, 0⟩ := by
            rw [awayO_at, if_neg (fun hh => take_drop_not HNd.out j hh (by rw [List.drop_eq_getElem_cons hj2]; exact List.mem_cons_self ..)), hheld]
          have HNx : Hid (awayO K.f (heldO K.f K.near) (G.take (j + 1)) = setO (awayO K.f (heldO K.f K.near) (G.take j)) G[j] ⟨[], true, crcN s⟩) := by
            show _ = _
            rw [List.take_succ_eq_append_getElem hj2, awayO_snoc, hs]
            rfl
          have hcell : ∃ b off, ao = some ⟨b, off, none⟩ ∧ k ≤ cp ∧ wr.cell? ⟨b, off + j, none⟩ = some (.int .i64 G[j]) := by
            rcases HVl2.out with ⟨e1, e2⟩ | ⟨gg, off, cap, e1, e2, e3, e4, e5, e6⟩
            · rw [e2] at hj2; cases hj2
            · cases e1
              exact ⟨gg, off, rfl, by have := HN.out; omega, e6 j hj2⟩
          obtain ⟨gb, off, rfl, hcap, hc⟩ := hcell
          obtain ⟨Wd, hWd⟩ : ∃ Wd, wr.drew = Wd := ⟨_, rfl⟩
          have bd : Below wr.heap.size wr Wd := by rw [← hWd]; exact Below.drew (Below.refl _ _)
          have hmd := hmp.new bd
          have hlk := hmd.look mtH (i6_few z0 z1)
          rw [hgj] at hlk
          change _ = Result.ok (Value.agg #[.string (str s), .bool false, .int .u32 0]) Wd at hlk
          obtain ⟨w', hrun, hm3, hf3⟩ := hmd.put mtH z0 z1 (⟨[], true, crcN s⟩ : Hd)
          have hbl := HBl2.out.new bd
          have hS : Wd.cell? ⟨q, 2, none⟩ = some (.map (some b)) ∧ (Instr.lookup 47 (.map (some b)) (.int .i64 G[j]) false).run Tryz.prog Wd = .ok (.agg #[.string (str s), .bool false, .int .u32 0]) Wd := ⟨hbl.cells.2.2.1, hlk⟩
          change (Instr.mapUpdate 47 (.map (some b)) (.int .i64 G[j]) (.agg #[.string ⟨#[]⟩, .bool true, .int .u32 (crcN s)])).run Tryz.prog Wd = .ok () w' at hrun
          have HF3 : Hid (Fr wl w' (fun x => some b = some x)) := HF2.out.trans ((Fr.ofBelow bd (fun k => k = b)).trans hf3 (fun _ _ e => e)) (fun _ _ e => by rw [e])
          have HM3 : Hid (IMo lvH w' (some b) (awayO K.f (heldO K.f K.near) (G.take (j + 1)))) := by
            show IMo _ _ _ _
            rw [HNx.out]
            exact hm3
          clear hmp hmd hlk hgj hheld hs hbl hf3 hm3 HNx bd
          generalize G[j] = m at z0 z1 hS hrun hc
          clear hj2
          go_upto_region 12 with (fail)
          refine wp_calmD ?_
          refine wp_region_L [14] (fun W : World => W.cell? ⟨q, 2, none⟩ = some (.map (some b)) ∧ (Instr.lookup 47 (.map (some b)) (.int .i64 m) false).run Tryz.prog W = .ok (.agg #[.string (str s), .bool false, .int .u32 0]) W) (by kernel_rfl) ?_
          rw [hWd]
          clear hc
          have hf := hfld
          refine wpAnyL_take (i := 0) 52 (v := .pointer (some ⟨q, 0, none⟩)) rfl rfl (by kernel_rfl) (by kernel_rfl) (by kernel_rfl) (by kernel_rfl) (by kernel_rfl) (by kernel_rfl) (fun _ _ _ h => h) hS (by rfl) (by intro w' hSw; obtain ⟨y0, y1⟩ := hSw; go_simp <;> with_reducible rfl) ?_
          simp only [Act.put, List.setIfInBounds_toArray, List.set_cons_zero, List.set_cons_succ]
          refine wpAnyL_take (i := 1) 53 (v := .pointer (some ⟨q, 0, none⟩)) rfl rfl (by kernel_rfl) (by kernel_rfl) (by kernel_rfl) (by kernel_rfl) (by kernel_rfl) (by kernel_rfl) (fun _ _ _ h => h) hS (by rfl) (by intro w' hSw; obtain ⟨y0, y1⟩ := hSw; go_simp <;> with_reducible rfl) ?_
          simp only [Act.put, List.setIfInBounds_toArray, List.set_cons_zero, List.set_cons_succ]
          refine wpAnyL_take (i := 2) 54 (v := .pointer (some ⟨q, 2, none⟩)) rfl rfl (by kernel_rfl) (by kernel_rfl) (by kernel_rfl) (by kernel_rfl) (by kernel_rfl) (by kernel_rfl) (fun _ _ _ h => h) hS (by rfl) (by intro w' hSw; obtain ⟨y0, y1⟩ := hSw; go_simp <;> with_reducible rfl) ?_
          simp only [Act.put, List.setIfInBounds_toArray, List.set_cons_zero, List.set_cons_succ]
          refine wpAnyL_take (i := 3) 55 (v := .map (some b)) rfl rfl (by kernel_rfl) (by kernel_rfl) (by kernel_rfl) (by kernel_rfl) (by kernel_rfl) (by kernel_rfl) (fun _ _ _ h => h) hS (by rfl) (by intro w' hSw; obtain ⟨y0, y1⟩ := hSw; go_simp <;> with_reducible rfl) ?_
          simp only [Act.put, List.setIfInBounds_toArray, List.set_cons_zero, List.set_cons_succ]
          refine wpAnyL_take (i := 4) 56 (v := .int .i64 m) rfl rfl (by kernel_rfl) (by kernel_rfl) (by kernel_rfl) (by kernel_rfl) (by kernel_rfl) (by kernel_rfl) (fun _ _ _ h => h) hS (by rfl) (by intro w' hSw; obtain ⟨y0, y1⟩ := hSw; go_simp <;> with_reducible rfl) ?_
          simp only [Act.put, List.setIfInBounds_toArray, List.set_cons_zero, List.set_cons_succ]
          refine wpAnyL_take (i := 5) 57 (v := .pointer (some ⟨q, 0, none⟩)) rfl rfl (by kernel_rfl) (by kernel_rfl) (by kernel_rfl) (by kernel_rfl) (by kernel_rfl) (by kernel_rfl) (fun _ _ _ h => h) hS (by rfl) (by intro w' hSw; obtain ⟨y0, y1⟩ := hSw; go_simp <;> with_reducible rfl) ?_
          simp only [Act.put, List.setIfInBounds_toArray, List.set_cons_zero, List.set_cons_succ]
          refine wpAnyL_take (i := 6) 58 (v := .pointer (some ⟨q, 0, none⟩)) rfl rfl (by kernel_rfl) (by kernel_rfl) (by kernel_rfl) (by kernel_rfl) (by kernel_rfl) (by kernel_rfl) (fun _ _ _ h => h) hS (by rfl) (by intro w' hSw; obtain ⟨y0, y1⟩ := hSw; go_simp <;> with_reducible rfl) ?_
          simp only [Act.put, List.setIfInBounds_toArray, List.set_cons_zero, List.set_cons_succ]
          refine wpAnyL_take (i := 7) 59 (v := .pointer (some ⟨q, 2, none⟩)) rfl rfl (by kernel_rfl) (by kernel_rfl) (by kernel_rfl) (by kernel_rfl) (by kernel_rfl) (by kernel_rfl) (fun _ _ _ h => h) hS (by rfl) (by intro w' hSw; obtain ⟨y0, y1⟩ := hSw; go_simp <;> with_reducible rfl) ?_
          simp only [Act.put, List.setIfInBounds_toArray, List.set_cons_zero, List.set_cons_succ]
          refine wpAnyL_take (i := 8) 60 (v := .map (some b)) rfl rfl (by kernel_rfl) (by kernel_rfl) (by kernel_rfl) (by kernel_rfl) (by kernel_rfl) (by kernel_rfl) (fun _ _ _ h => h) hS (by rfl) (by intro w' hSw; obtain ⟨y0, y1⟩ := hSw; go_simp <;> with_reducible rfl) ?_
          simp only [Act.put, List.setIfInBounds_toArray, List.set_cons_zero, List.set_cons_succ]
          refine wpAnyL_take (i := 9) 61 (v := .int .i64 m) rfl rfl (by kernel_rfl) (by kernel_rfl) (by kernel_rfl) (by kernel_rfl) (by kernel_rfl) (by kernel_rfl) (fun _ _ _ h => h) hS (by rfl) (by intro w' hSw; obtain ⟨y0, y1⟩ := hSw; go_simp <;> with_reducible rfl) ?_
          simp only [Act.put, List.setIfInBounds_toArray, List.set_cons_zero, List.set_cons_succ]
          refine wpAnyL_take (i := 10) 62 (v := .agg #[.string (str s), .bool false, .int .u32 0]) rfl rfl (by kernel_rfl) (by kernel_rfl) (by kernel_rfl) (by kernel_rfl) (by kernel_rfl) (by kernel_rfl) (fun _ _ _ h => h) hS (by rfl) (by intro w' hSw; obtain ⟨y0, y1⟩ := hSw; go_simp <;> with_reducible rfl) ?_
          simp only [Act.put, List.setIfInBounds_toArray, List.set_cons_zero, List.set_cons_succ]
          refine wpAnyL_take (i := 11) 63 (v := .string (str s)) rfl rfl (by kernel_rfl) (by kernel_rfl) (by kernel_rfl) (by kernel_rfl) (by kernel_rfl) (by kernel_rfl) (fun _ _ _ h => h) hS (by rfl) (by intro w' hSw; obtain ⟨y0, y1⟩ := hSw; go_simp <;> with_reducible rfl) ?_
          simp only [Act.put, List.setIfInBounds_toArray, List.set_cons_zero, List.set_cons_succ]
          have hSu := fun W => ssum hsl W
          refine wpAnyL_one (i := 12) (by kernel_rfl) rfl (fun Ka hKa => ?_)
          go_simp
          refine Calls.mono (hSu _) ?_
          rintro r w5 ⟨rfl, hw5⟩
          rw [hw5]
          refine hKa.out _ _ (fun _ => hS) ?_
          clear hKa Ka hw5
          try simp only [Act.put, List.setIfInBounds_toArray, List.set_cons_zero, List.set_cons_succ]
          refine wpAnyL_one (i := 13) (by kernel_rfl) rfl (fun Ka hKa => ?_)
          go_simp
          refine hKa.out _ _ (fun _ => hS) ?_
          clear hKa Ka
          try simp only [Act.put, List.setIfInBounds_toArray, List.set_cons_zero, List.set_cons_succ]
          refine wpAnyL_one (i := 14) (by kernel_rfl) rfl (fun Ka hKa => ?_)
          go_simp
          refine hKa.out _ _ (fun h => absurd h (Bool.eq_false_iff.1 (by kernel_rfl))) ?_
          clear hKa Ka
          try simp only [Act.put, List.setIfInBounds_toArray, List.set_cons_zero, List.set_cons_succ]
          refine wpAnyL_done (by kernel_rfl) ?_ _
          clear hS hrun hSu hf
          go_wp2
          go_roundw
          case rel => exact ⟨j + 1, hlj, by go_num, HM3.out, HF3.out⟩
          case measure => simp [intOf]; omega
        · obtain rfl : j = k := by omega
          have hmw : IMo lvH wr mb (awayO K.f (heldO K.f K.near) G) := by
            have := HM2.out
            rw [List.take_of_length_le (by have := HN.out; omega)] at this
            exact this
          have hdk : DkAt (fun x => Xm x ∨ mb = some x) wr B p (wrA K.f A G) := HGo2.out.dk.kept HF2.out (fun x e => .inr e)
          have HNg : Hid (j = K.go n t) := by show _ = _; rw [← HGl.out]; exact HN.out.symm
          have hmm := @run_makeMap Tryz.prog
          have hq := fun (w : World) (r : Option Nat) => Go.run_eql_map_nil (P := Tryz.prog) w 47 _ _ r Tryz.underlying47
          have HBw : Hid (w.heap.size ≤ wr.heap.size) := HFl2.out.size
          clear HM2 HF2 HGo2 HT0 HBl HVl HVs HFl HVl2 HK HN HNd HGl HH1
          cases mb with
          | some b =>
            have HMw : Hid (IMp lvH wr b (awayO K.f (heldO K.f K.near) G)) := hmw
            have HDk : Hid (DkAt (fun x => Xm x ∨ some b = some x) wr B p (wrA K.f A G)) := hdk
            obtain ⟨w3, hrun, h3, f3⟩ := IMp.put mtH HMw.out h0 h1 (⟨t, false, 0⟩ : Hd)
            change (Instr.mapUpdate 47 (.map (some b)) (.int .i64 n) (.agg #[.string (str t), .bool false, .int .u32 0])).run Tryz.prog wr = .ok () w3 at hrun
            have H3 : Hid (IMp lvH w3 b (setO (awayO K.f (heldO K.f K.near) G) n ⟨t, false, 0⟩)) := h3
            have F3 : Hid (Fr wr w3 (fun k => k = b)) := f3
            have HM3 : Hid (∃ es c, wr.heap[b]? = some (.map es c)) := HMw.out.isMap
            have HV3 : Hid (NrO w3 w.heap.size vs ((woI K.near n).drop (K.go n t))) := HVs2.out.kept f3 (fun x e e2 => by
              obtain ⟨es, c', hm⟩ := HM3.out
              obtain ⟨_, c'', f'', hm'⟩ := HVs2.out.tag e
              rw [e2, hm] at hm'
              cases hm')
            have HB3 : Hid (StBl w3 q p K.bud K.sp (some b) mv) := (f3.block q (lt_blk HBl2.out) (fun e => by
              obtain ⟨es, c', hm⟩ := HM3.out
              rw [← e, HBl2.out] at hm
              cases hm)).trans HBl2.out
            have HW3 : Hid (w.heap.size ≤ w3.heap.size) := Nat.le_trans HBw.out f3.size
            obtain ⟨c0, c1, c2, c3, c4⟩ := HBl2.out.cells
            clear h3 f3 hmw hdk
            go_upto_region 17 with (fail)
            obtain ⟨d0, d1, d2, d3, d4⟩ := HB3.out.cells
            have HA4 : Hid (∀ w5, Fr (w3.alloc (.cells #[.int .i64 n] 3)) w5 (fun k => vs.ownBlock = some k) → StBl w5 q p K.bud K.sp (some b) mv) := fun w5 f5 => by
              have b4 := HB3.out.new (gone_new w3 (.cells #[.int .i64 n] 3))
              refine (f5.block q (lt_blk b4) (fun e => ?_)).trans b4
              obtain ⟨_, c'', f'', hm'⟩ := (HV3.out.new (gone_new w3 (.cells #[.int .i64 n] 3))).tag e
              rw [b4] at hm'
              cases hm'
            clear hrun c0 c1 c2 c3 c4 hmm hq d0 d1 d2 d3 d4
            go_upto_region 18 with (at_builtin; refine wpl_appN rfl rfl rfl rfl (NrO.new HV3.out (gone_new _ _)) (srcN _ _) HLs.out (Nat.le_trans HW3.out (by simp)) ?_; intro v5 w5 o5 f5 _; obtain ⟨a5, l5, k5, rfl⟩ : ∃ a l c, v5 = .slice a l c := (by obtain ⟨a, c, e⟩ := o5.shape; exact ⟨a, _, c, e⟩); have O5 : Hid _ := o5; have F5 : Hid _ := f5; have b5 := HA4.out w5 f5; have e3 := b5.cells.2.2.2.1; have g3 := b5.free 3; have B5 : Hid _ := b5; clear o5 f5 b5)
            clear e3 g3
            have e4 : (w5.setCell ⟨q, 3, none⟩ (.slice a5 l5 k5)).cell? ⟨q, 4, none⟩ = some (.int .i64 K.sp) := (StBl.cells (show StBl (w5.setCell ⟨q, 3, none⟩ (.slice a5 l5 k5)) q p K.bud K.sp (some b) (.slice a5 l5 k5) from blk_set (i := 3) (.slice a5 l5 k5) B5.out)).2.2.2.2
            have g4 := StBl.free (show StBl (w5.setCell ⟨q, 3, none⟩ (.slice a5 l5 k5)) q p K.bud K.sp (some b) (.slice a5 l5 k5) from blk_set (i := 3) (.slice a5 l5 k5) B5.out) 4
            have HT := use_tail HH.out HB.out h0 h1 ht HFl2.out HBl2.out (by rw [HGe.out]; exact HDk.out) (by rw [HGe.out]; exact HMw.out) (HH.out.hm b rfl) (HH.out.nm b rfl) (by rw [HGe.out]; exact H3.out) F3.out (gone_new w3 (.cells #[.int .i64 n] 3)) (HV3.out.new (gone_new _ _)) O5.out F5.out
            rw [← HNg.out] at HT
            have HTT : Hid _ := HT
            generalize w5.setCell ⟨q, 3, none⟩ (.slice a5 l5 k5) = w6 at e4 g4 HTT ⊢
            have hE : ((K.sp + j : Nat) : Int) = (K.sp : Int) + (j : Int) := by simp
            rw [hE] at HTT
            clear HT hE
            go_wp2
            go_ret
            exact ⟨rfl, HTT.out.1, HTT.out.2⟩
          | none =>
            have hmw' : awayO K.f (heldO K.f K.near) G = noneO := hmw
            have HMe : Hid (awayO K.f (heldO K.f K.near) G = noneO) := hmw'
            have HDk0 : Hid (DkAt (fun x => Xm x ∨ none = some x) wr B p (wrA K.f A G)) := hdk
            clear hmw hmw' hdk
            obtain ⟨c0, c1, c2, c3, c4⟩ := HBl2.out.cells
            go_upto_region 15 with (fail)
            obtain ⟨W1, hW1⟩ : ∃ W1, wr.alloc (.map #[] 0) = W1 := ⟨_, rfl⟩
            have b1 : Below wr.heap.size wr W1 := by rw [← hW1]; exact gone_new _ _
            have hs1 : W1.heap.size = wr.heap.size + 1 := by rw [← hW1]; simp
            have hbl1 := HBl2.out.new b1
            have HBl1 : Hid (StBl W1 q p K.bud K.sp none mv) := hbl1
            have hdk1 : DkAt (fun x => Xm x ∨ some wr.heap.size = some x) W1 B p (wrA K.f A G) := (st_dkgrow HDk0.out (Fr.ofBelow b1 (fun _ => False)) (fun _ f => f.elim)).less (fun x e => by
              rcases e with e | e
              · exact .inl (.inl e)
              · cases e
                exact .inr ⟨Nat.le_refl _, by omega⟩)
            have HDk1 : Hid (DkAt (fun x => Xm x ∨ some wr.heap.size = some x) W1 B p (wrA K.f A G)) := hdk1
            have HM1 : Hid (IMp lvH W1 wr.heap.size noneO) := by show IMp _ _ _ _; rw [← hW1]; exact IMp.made lvH wr
            have HB1' : Hid (Below wr.heap.size wr W1) := b1
            have HQb : Hid (q < wr.heap.size) := lt_blk HBl2.out
            obtain ⟨c0, c1, c2, c3, c4⟩ := hbl1.cells
            have f2 := hbl1.free 2
            clear b1 hs1 hbl1 hdk1
            go_upto_region 16 with (fail)
            generalize hW2 : World.setCell _ _ _ = W2
            have hF2 : Fr W1 W2 (fun k => k = q) := by rw [← hW2]; exact Fr.setCell (S := fun k => k = q) _ ⟨q, 2, none⟩ _ rfl
            have HBl9 : Hid (StBl W2 q p K.bud K.sp (some wr.heap.size) mv) := by show StBl _ _ _ _ _ _ _; rw [← hW2]; exact blk_set (i := 2) _ HBl1.out
            have HMw : Hid (IMp lvH W2 wr.heap.size (awayO K.f (heldO K.f K.near) G)) := by
              show IMp _ _ _ _
              rw [HMe.out]
              exact HM1.out.kept hF2 (fun e => by have := HQb.out; omega)
            have HDk : Hid (DkAt (fun x => Xm x ∨ some wr.heap.size = some x) W2 B p (wrA K.f A G)) := st_dkkeep HDk1.out hF2 (fun k hk => by rw [hk]; exact ⟨_, _, _, HBl1.out, by decide, by decide⟩)
            have HVs9 : Hid (NrO W2 w.heap.size vs ((woI K.near n).drop (K.go n t))) := (HVs2.out.new HB1'.out).kept hF2 (fun x e e2 => by
              obtain ⟨_, c'', f'', hm'⟩ := (HVs2.out.new HB1'.out).tag e
              rw [e2, HBl1.out] at hm'
              cases hm')
            have HFl9 : Hid (FrT Xm B w W2) := (HFl2.out.trans (FrT.new HB1'.out)).trans (Fr.mono hF2 (fun k _ e => by rw [e]; exact ⟨HH.out.hq, .inr ⟨_, _, _, HBl1.out, .inr (.inr rfl)⟩, HH.out.nq⟩))
            have HBw9 : Hid (w.heap.size ≤ W2.heap.size) := Nat.le_trans HBw.out (Nat.le_trans HB1'.out.size hF2.size)
            have HBb9 : Hid (B ≤ wr.heap.size) := Nat.le_trans HB.out HBw.out
            have HNb9 : Hid (¬ Xm wr.heap.size) := fun e => by have := HH.out.lx _ e; have := HBw.out; omega
            clear hW2 hF2 hW1 HM1 HDk1 HBl1 HB1' HQb HDk0 HMe c0 c1 c2 c3 c4 f2 HBl2 HVs2 HFl2 HBw
            generalize wr.heap.size = b at HBl9 HMw HDk HBb9 HNb9 ⊢
            obtain ⟨w3, hrun, h3, f3⟩ := IMp.put mtH HMw.out h0 h1 (⟨t, false, 0⟩ : Hd)
            change (Instr.mapUpdate 47 (.map (some b)) (.int .i64 n) (.agg #[.string (str t), .bool false, .int .u32 0])).run Tryz.prog W2 = .ok () w3 at hrun
            have H3 : Hid (IMp lvH w3 b (setO (awayO K.f (heldO K.f K.near) G) n ⟨t, false, 0⟩)) := h3
            have F3 : Hid (Fr W2 w3 (fun k => k = b)) := f3
            have HM3 : Hid (∃ es c, W2.heap[b]? = some (.map es c)) := HMw.out.isMap
            have HV3 : Hid (NrO w3 w.heap.size vs ((woI K.near n).drop (K.go n t))) := HVs9.out.kept f3 (fun x e e2 => by
              obtain ⟨es, c', hm⟩ := HM3.out
              obtain ⟨_, c'', f'', hm'⟩ := HVs9.out.tag e
              rw [e2, hm] at hm'
              cases hm')
            have HB3 : Hid (StBl w3 q p K.bud K.sp (some b) mv) := (f3.block q (lt_blk HBl9.out) (fun e => by
              obtain ⟨es, c', hm⟩ := HM3.out
              rw [← e, HBl9.out] at hm
              cases hm)).trans HBl9.out
            have HW3 : Hid (w.heap.size ≤ w3.heap.size) := Nat.le_trans HBw9.out f3.size
            obtain ⟨c0, c1, c2, c3, c4⟩ := HBl9.out.cells
            clear h3 f3
            go_upto_region 17 with (fail)
            obtain ⟨d0, d1, d2, d3, d4⟩ := HB3.out.cells
            have HA4 : Hid (∀ w5, Fr (w3.alloc (.cells #[.int .i64 n] 3)) w5 (fun k => vs.ownBlock = some k) → StBl w5 q p K.bud K.sp (some b) mv) := fun w5 f5 => by
              have b4 := HB3.out.new (gone_new w3 (.cells #[.int .i64 n] 3))
              refine (f5.block q (lt_blk b4) (fun e => ?_)).trans b4
              obtain ⟨_, c'', f'', hm'⟩ := (HV3.out.new (gone_new w3 (.cells #[.int .i64 n] 3))).tag e
              rw [b4] at hm'
              cases hm'
            clear hrun c0 c1 c2 c3 c4 hmm hq d0 d1 d2 d3 d4
            go_upto_region 18 with (at_builtin; refine wpl_appN rfl rfl rfl rfl (NrO.new HV3.out (gone_new _ _)) (srcN _ _) HLs.out (Nat.le_trans HW3.out (by simp)) ?_; intro v5 w5 o5 f5 _; obtain ⟨a5, l5, k5, rfl⟩ : ∃ a l c, v5 = .slice a l c := (by obtain ⟨a, c, e⟩ := o5.shape; exact ⟨a, _, c, e⟩); have O5 : Hid _ := o5; have F5 : Hid _ := f5; have b5 := HA4.out w5 f5; have e3 := b5.cells.2.2.2.1; have g3 := b5.free 3; have B5 : Hid _ := b5; clear o5 f5 b5)
            clear e3 g3
            have e4 : (w5.setCell ⟨q, 3, none⟩ (.slice a5 l5 k5)).cell? ⟨q, 4, none⟩ = some (.int .i64 K.sp) := (StBl.cells (show StBl (w5.setCell ⟨q, 3, none⟩ (.slice a5 l5 k5)) q p K.bud K.sp (some b) (.slice a5 l5 k5) from blk_set (i := 3) (.slice a5 l5 k5) B5.out)).2.2.2.2
            have g4 := StBl.free (show StBl (w5.setCell ⟨q, 3, none⟩ (.slice a5 l5 k5)) q p K.bud K.sp (some b) (.slice a5 l5 k5) from blk_set (i := 3) (.slice a5 l5 k5) B5.out) 4
            have HT := use_tail HH.out HB.out h0 h1 ht HFl9.out HBl9.out (by rw [HGe.out]; exact HDk.out) (by rw [HGe.out]; exact HMw.out) HBb9.out HNb9.out (by rw [HGe.out]; exact H3.out) F3.out (gone_new w3 (.cells #[.int .i64 n] 3)) (HV3.out.new (gone_new _ _)) O5.out F5.out
            rw [← HNg.out] at HT
            have HTT : Hid _ := HT
            generalize w5.setCell ⟨q, 3, none⟩ (.slice a5 l5 k5) = w6 at e4 g4 HTT ⊢
            have hE : ((K.sp + j : Nat) : Int) = (K.sp : Int) + (j : Int) := by simp
            rw [hE] at HTT
            clear HT hE
            go_wp2
            go_ret
            exact ⟨rfl, HTT.out.1, HTT.out.2⟩
end
end Go.Proofs.YtjemnkijoiehmaaGreatDoor
