import Derived.Test.YtjemnkijoiehmaaGreatDoorStSaM
/- store: what use leaves behind, on the world's blocks alone. -/
namespace Go.Proofs.YtjemnkijoiehmaaGreatDoor
open Go.RowKit Go.Maps
variable {Xm : Nat → Prop}
/-- Blocks that are no disk's were written. -/
theorem st_dkkeep {w w' : World} {S : Nat → Prop} {B p : Nat} {A : Dk} (h : DkAt Xm w B p A) (hf : Fr w w' S) (hS : ∀ k, S k → ∃ c t f, w.heap[k]? = some (.cells c t f) ∧ t ≠ 54 ∧ t ≠ 86) : DkAt Xm w' B p A := by
  obtain ⟨mn, ms, lv, h⟩ := h
  refine ⟨mn, ms, lv, h.kept hf (fun k s => ?_)⟩
  obtain ⟨c, t, f, hb, h1, h2⟩ := hS k s
  refine ⟨fun e => ?_, fun e => ?_, fun e => ?_, fun e => ?_⟩
  · rw [e, h.blk] at hb
    cases hb
    exact h1 rfl
  · obtain ⟨es, c', hm⟩ := map_tag h.now e
    rw [hb] at hm; cases hm
  · obtain ⟨es, c', hm⟩ := map_tag h.sure e
    rw [hb] at hm; cases hm
  · obtain ⟨_, c', f', hm⟩ := row_tag h.row e
    rw [hb] at hm
    cases hm
    exact h2 rfl
section
variable {w W2 w3 w4 w5 : World} {B q p c b : Nat} {K : St} {A : Dk} {mb : Option Nat} {mv vs v' : Value} {n : Int} {t : Bs}
theorem use_tail (h : SA0 Xm w B q p K A c mb mv) (hB : B ≤ w.heap.size) (h0 : 0 ≤ n) (h1 : n < 16) (ht : t.length ≤ 140737488351232)
    (f2 : FrT Xm B w W2) (hblk2 : StBl W2 q p K.bud K.sp (some b) mv) (hdk2 : DkAt (fun k => Xm k ∨ some b = some k) W2 B p (wrA K.f A ((woI K.near n).take (K.go n t)))) (hb2 : IMp lvH W2 b (awayO K.f (heldO K.f K.near) ((woI K.near n).take (K.go n t)))) (hBb : B ≤ b) (hnb : ¬ Xm b)
    (h3 : IMp lvH w3 b (setO (awayO K.f (heldO K.f K.near) ((woI K.near n).take (K.go n t))) n ⟨t, false, 0⟩)) (f3 : Fr W2 w3 (fun k => k = b))
    (f4 : Below w3.heap.size w3 w4) (hvs : NrO w4 w.heap.size vs ((woI K.near n).drop (K.go n t)))
    (h5 : NrO w5 w.heap.size v' ((woI K.near n).drop (K.go n t) ++ [n])) (f5 : Fr w4 w5 (fun k => vs.ownBlock = some k)) :
    SA Xm ((w5.setCell ⟨q, 3, none⟩ v').setCell ⟨q, 4, none⟩ (.int .i64 (K.sp + K.go n t : Nat))) B q p (K.use n t) (c + 16) ∧ FrT Xm B w ((w5.setCell ⟨q, 3, none⟩ v').setCell ⟨q, 4, none⟩ (.int .i64 (K.sp + K.go n t : Nat))) := by
  have hqb : q ≠ b := fun e => by
    obtain ⟨es, c', hm⟩ := hb2.isMap
    rw [← e, hblk2] at hm
    cases hm
  have bl3 : StBl w3 q p K.bud K.sp (some b) mv := (f3.block q (lt_blk hblk2) hqb).trans hblk2
  have bl4 := bl3.new f4
  have dk3 := hdk2.kept f3 (fun k e => .inr (by rw [e]))
  have dk4 := dk3.new f4
  have m4 := h3.new f4
  have tg : ∀ k, vs.ownBlock = some k → w.heap.size ≤ k ∧ ∃ c f, w4.heap[k]? = some (.cells c 3 f) := fun k hk => hvs.tag hk
  have hqs : ¬ vs.ownBlock = some q := fun e => by
    obtain ⟨_, c', f, hm⟩ := tg q e
    rw [bl4] at hm
    cases hm
  have hbs : ¬ vs.ownBlock = some b := fun e => by
    obtain ⟨_, c', f, hm⟩ := tg b e
    obtain ⟨es, c', hm2⟩ := m4.isMap
    rw [hm] at hm2
    cases hm2
  have bl5 : StBl w5 q p K.bud K.sp (some b) mv := (f5.block q (lt_blk bl4) hqs).trans bl4
  have dk5 := st_dkkeep dk4 f5 (fun k hk => by
    obtain ⟨_, c', f, hm⟩ := tg k hk
    exact ⟨_, _, _, hm, by decide, by decide⟩)
  have m5 := m4.kept f5 hbs
  have tg5 : ∀ k, v'.ownBlock = some k → w.heap.size ≤ k ∧ ∃ c f, w5.heap[k]? = some (.cells c 3 f) := fun k hk => h5.tag hk
  have hqv : ¬ v'.ownBlock = some q := fun e => by
    obtain ⟨_, c', f, hm⟩ := tg5 q e
    rw [bl5] at hm
    cases hm
  generalize hS1 : w5.setCell ⟨q, 3, none⟩ v' = w6
  have f6 : Fr w5 w6 (fun k => k = q) := by rw [← hS1]; exact Fr.setCell (S := fun k => k = q) w5 ⟨q, 3, none⟩ _ rfl
  have bl6 : StBl w6 q p K.bud K.sp (some b) v' := by rw [← hS1]; exact blk_set (i := 3) v' bl5
  generalize hS2 : w6.setCell ⟨q, 4, none⟩ (.int .i64 (K.sp + K.go n t : Nat)) = w7
  have f7 : Fr w6 w7 (fun k => k = q) := by rw [← hS2]; exact Fr.setCell (S := fun k => k = q) w6 ⟨q, 4, none⟩ _ rfl
  have bl7 : StBl w7 q p K.bud (K.sp + K.go n t : Nat) (some b) v' := by rw [← hS2]; exact blk_set (i := 4) _ bl6
  have f67 : Fr w5 w7 (fun k => k = q) := f6.trans f7 (fun _ _ h => h)
  have dk7 := st_dkkeep dk5 f67 (fun k hk => by rw [hk]; exact ⟨_, _, _, bl5, by decide, by decide⟩)
  have m7 := m5.kept f67 (fun e => hqb e.symm)
  have r7 := h5.kept f67 (fun k hk e => hqv (by rw [← e]; exact hk))
  have hsort := DkAt.sort h.dk
  have hlx := h.lx
  refine ⟨⟨wrA K.f A ((woI K.near n).take (K.go n t)), some b, v', bl7, ?_, r7.low hB, dk7, ?_, h.ok.use h0 h1 ht, use_files h.ok hsort h.fl, h.hq, fun k e => by cases e; exact hBb, h.nq, fun k e => by cases e; exact hnb, fun k e hx => ?_⟩, ?_⟩
  · show IMp lvH w7 b _
    rw [use_held h.ok] at m7
    exact m7
  · refine (wrA_ok h.di _ (fun m hm => ?_)).mono ?_
    · obtain ⟨s, hs⟩ := Option.isSome_iff_exists.1 (h.ok.sub m (mem_woI.1 (List.mem_of_mem_take hm)).1)
      rw [hs]
      exact h.ok.siz m s hs
    · rw [List.length_take]
      have := woI_le K.near n
      have := h.ok.few
      omega
  · have h1 := hlx k hx
    have h2 := (tg5 k e).1
    omega
  · have g3 : FrT Xm B w w3 := f2.trans (Fr.mono f3 (fun k _ e => by rw [e]; exact ⟨hBb, .inl hb2.isMap, hnb⟩))
    have g4 : FrT Xm B w w4 := g3.trans (FrT.new f4)
    have g5 : FrT Xm B w w5 := Fr.trans g4 f5 (fun i hi e => absurd (tg i e).1 (by omega))
    refine g5.trans (Fr.mono f67 (fun k _ e => ?_))
    rw [e]
    exact ⟨h.hq, .inr ⟨_, _, _, bl5, .inr (.inr rfl)⟩, h.nq⟩
end
end Go.Proofs.YtjemnkijoiehmaaGreatDoor
