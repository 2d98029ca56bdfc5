import Derived.Test.YtnhjflebaeokeaaGreatRoRaM
section
/- rnode: keep of a whole master. -/
namespace Go.Proofs.YtnhjflebaeokeaaGreat
open Go.RowKit
variable {Xm : Nat → Prop}
/-- What keeping leaves of rows of texts: those of others; the log's own row stays or is new. -/
def SKp (w w' : World) (rv rv' : Value) : Prop := (∀ i c f, w.heap[i]? = some (.cells c 9 f) → rv.ownBlock ≠ some i → w'.heap[i]? = some (.cells c 9 f)) ∧ ∀ j, rv'.ownBlock = some j → rv.ownBlock = some j ∨ w.heap.size ≤ j
theorem f3_str {W : World} {B lq dp k : Nat} {snap : Bs} {rv : Value} {R : List Bs} {cs : Array Value} {f : Nat × Nat} (hL : Lg W B lq dp snap rv R) (h : W.heap[k]? = some (.cells cs 9 f)) (hn : rv.ownBlock ≠ some k) : ¬ ((B ≤ k ∧ DkB Xm W k) ∨ k = lq ∨ rv.ownBlock = some k) := by
  rintro (⟨-, ⟨es, c, hm⟩ | ⟨c, t', f', hm, ht⟩, -⟩ | rfl | hr)
  · rw [h] at hm; cases hm
  · rw [h] at hm
    cases hm
    rcases ht with e | e <;> cases e
  · have := hL.blk
    rw [h] at this
    cases this
  · exact hn hr
def KPost (Xm : Nat → Prop) (w W : World) (S : Nat → Prop) (B np dp lq vp : Nat) (A : Nd) (g : Hd) (kv rv : Value) (cm at_ : Int) (k : Nat) (lv : Value) (w' : World) : Prop :=
  w'.heap[np]? = some (.cells (roC dp lq vp g kv cm at_ false) 87 (0, 0)) ∧ NdAt w' S vp A ∧ (∀ (q : Nat) (cs : Array Value), W.heap[q]? = some (.cells cs 66 (0, 0)) → w'.heap[q]? = some (.cells cs 66 (0, 0))) ∧ ∃ rv' D' R', DkAt Xm w' B dp D' ∧ Lg w' B lq dp (baseB (hdOf A)) rv' R' ∧ (∀ j, rv'.ownBlock = some j → ¬ S j) ∧ EnO w' w.heap.size lv A.log ∧ PD D' (hdOf A) R' (k + 2) ∧ Below B w w' ∧ SKp w w' rv rv'
theorem kpost_of {w W W' w' : World} {S : Nat → Prop} {B np dp lq vp k : Nat} {A : Nd} {g : Hd} {kv rv rv' lv : Value} {cm at_ : Int} {D D' : Dk} {R R' : List Bs} (h : RA Xm w S B np dp lq vp A g kv rv cm at_ D R) (hb : Below w.heap.size w W) (hb2 : Below W.heap.size W W') (hE : EnO W w.heap.size lv A.log)
    (hf : Fr W' w' (fun k => (B ≤ k ∧ DkB Xm W' k) ∨ k = lq ∨ rv.ownBlock = some k)) (hD : DkAt Xm w' B dp D') (hL : Lg w' B lq dp (baseB (hdOf A)) rv' R') (hr : ∀ j, rv'.ownBlock = some j → rv.ownBlock = some j ∨ W'.heap.size ≤ j) (hP : PD D' (hdOf A) R' (k + 2)) : KPost Xm w W S B np dp lq vp A g kv rv cm at_ k lv w' := by
  have b2 : Below w.heap.size w W' := hb.trans (hb2.mono hb.size)
  have hLW := h.log.new b2
  have hNW : W'.heap[np]? = _ := (b2.block np (vlt_blk h.blk)).trans h.blk
  have hVW := h.view.new b2
  have hEW := hE.new hb2
  refine ⟨(hf.block np (vlt_blk hNW) (f3_not hLW hNW (by decide) (by decide) (by decide) (by decide))).trans hNW, hVW.kept hf (fun j hj s => ?_), fun q cs hq => ?_, rv', D', R', hD, hL, fun j hj s => ?_, hEW.kept hf (fun j hj => ?_), hP, ?_, fun i c f hi hn => ?_, fun j hj => ?_⟩
  · intro sj
    rcases s with ⟨-, -, hx⟩ | rfl | e
    · exact hx (h.xs j sj)
    · exact h.nl sj
    · exact h.nr j e sj
  · have hq' := (hb2.block q (vlt_blk hq)).trans hq
    exact (hf.block q (vlt_blk hq') (f3_not hLW hq' (by decide) (by decide) (by decide) (by decide))).trans hq'
  · rcases hr j hj with e | e
    · exact h.nr j e s
    · have := h.bd j s
      have := b2.size
      omega
  · obtain ⟨_, c, f', hm⟩ := vrow_tag hEW hj
    exact f3_not hLW hm (by decide) (by decide) (by decide) (by decide)
  · have b3 : Below B w W' := b2.mono h.hB
    refine b3.trans (hf.below (Nat.le_trans h.hB b2.size) (fun j s => ?_))
    rcases s with ⟨e, -⟩ | rfl | e
    · exact e
    · exact hLW.hq
    · exact (hLW.row.tag e).1
  · have hi' := (b2.block i (lt_blk hi)).trans hi
    exact (hf.block i (lt_blk hi') (f3_str hLW hi' hn)).trans hi'
  · rcases hr j hj with e | e
    · exact .inl e
    · exact .inr (Nat.le_trans b2.size e)
theorem hb_base {A : Nd} {g : Hd} (h : A.bi = g.bi ∧ A.bv = g.bv ∧ A.base = g.base) : baseB (hdOf A) = baseB g := by
  unfold baseB hdOf
  simp only [h.1, h.2.1, h.2.2]
theorem keep_ra {w : World} {S : Nat → Prop} {B np dp lq vp k : Nat} {A : Nd} {g : Hd} {kv rv : Value} {cm at_ : Int} {D : Dk} {R : List Bs} (h : RA Xm w S B np dp lq vp A g kv rv cm at_ D R) (hA : A.ok) (hok : (hdOf A).ok) (hP : PD D g R k) (hk : k ≤ 80000) (hbs : A.bi ≠ g.bi ∨ (A.bi = g.bi ∧ A.bv = g.bv ∧ A.base = g.base)) :
    Calls Tryz.prog 39 #[.pointer (some ⟨np, 0, none⟩)] w fun r w' => r = .returned (.int .i64 0) ∧ ∃ kv' rv' D' R', RA Xm w' S B np dp lq vp A (hdOf A) kv' rv' A.cm at_ D' R' ∧ PD D' (hdOf A) R' (k + 2) ∧ Below B w w' ∧ SKp w w' rv rv' := by
  refine (keep_core (Post := fun lv w1 => ∃ rv' D' R', w1.heap[np]? = some (.cells (roC dp lq vp g kv cm at_ false) 87 (0, 0)) ∧ NdAt w1 S vp A ∧ DkAt Xm w1 B dp D' ∧ Lg w1 B lq dp (baseB (hdOf A)) rv' R' ∧ (∀ j, rv'.ownBlock = some j → ¬ S j) ∧ EnO w1 w.heap.size lv A.log ∧ PD D' (hdOf A) R' (k + 2) ∧ Below B w w1 ∧ SKp w w1 rv rv') h.blk h.view hA (fun W lv hb hE => ?_)).mono ?_
  · have hlW := h.log.new hb
    have hdW := h.disk.new hb
    have key : Calls Tryz.prog 67 #[.pointer (some ⟨np, 0, none⟩), hdV (hdOf A) lv] W fun r w' => ∃ e, r = .returned (.int .i64 e) ∧ e = 0 ∧ KPost Xm w W S B np dp lq vp A g kv rv cm at_ k lv w' := by
      have hN : W.heap[np]? = some (.cells (roC dp lq vp g kv cm at_ false) 87 (0, 0)) := (hb.block np (vlt_blk h.blk)).trans h.blk
      by_cases hres : A.bi ≠ g.bi ∨ 40 < R.length
      · refine write_reset (h := hdOf A) hN hlW hok hE hres (fun W' hb2 v hv => ?_)
        have b2 : Below w.heap.size w W' := hb.trans (hb2.mono hb.size)
        have hrs := recB_small (hdOf A) hok 0 (Nat.zero_le _)
        have hbl := baseB_len (hdOf A) hok
        have hfl := frs_len (baseB (hdOf A) :: [recB (hdOf A) 0]) (fun x hx => by
          rcases List.mem_cons.1 hx with rfl | hx
          · exact hbl
          · rw [List.mem_singleton.1 hx]; omega)
        have hFM : (frs (baseB (hdOf A) :: [recB (hdOf A) 0])).length ≤ 1000000000000 := by simp only [List.length_cons, List.length_nil] at hfl; omega
        obtain ⟨c1, c2⟩ := hP.cl.anew hFM
        refine (reset_any (hlW.new hb2) (hdW.new hb2) (Nat.le_trans h.hB b2.size) hP.cl (by decide) (by omega) hv (frs_small hrs) (by omega) hFM).mono ?_
        rintro r w' ⟨rfl, hD, ⟨rv', hL', hr'⟩, hf⟩
        refine ⟨0, rfl, rfl, kpost_of h hb hb2 hE (rv := rv) (hf.mono (fun j _ s => by rcases s with e | e; exact .inl e; exact .inr (.inl e))) hD hL' (fun j hj => .inr (hr' j hj)) ⟨c1, c2, ?_, by simp, hok, fun x hx => by rw [List.mem_singleton.1 hx]; exact hrs⟩⟩
        exact ⟨hdOf A, 0, rfl, hok, rfl, rfl, rfl, Nat.zero_le _, Nat.zero_le _, rfl, rfl⟩
      · have hbi : A.bi = g.bi := by
          by_cases e : A.bi = g.bi
          · exact e
          · exact absurd (.inl e) hres
        have hlen : R.length ≤ 40 := by
          by_cases e : 40 < R.length
          · exact absurd (.inr e) hres
          · omega
        have hsame : A.bv = g.bv ∧ A.base = g.base := by
          rcases hbs with e | e
          · exact absurd hbi e
          · exact e.2
        have hKW : EnO W B kv g.log := h.kept.new hb
        by_cases hne : A.vw = g.vw ∧ A.nm = g.nm ∧ alikeN A.log g.log = A.log.length ∧ alikeN A.log g.log = g.log.length
        · have hlog : A.log = g.log := by
            have h1 := alikeN_take A.log g.log
            rw [hne.2.2.1] at h1
            rw [List.take_length, show A.log.length = g.log.length from hne.2.2.1.symm.trans hne.2.2.2, List.take_length] at h1
            exact h1
          have hg : hdOf A = g := by
            unfold hdOf
            rw [hne.1, hne.2.1, hbi, hsame.1, hsame.2, hlog]
          refine (write_same (h := hdOf A) hN hlW hok hP.ok.len hE hKW hbi hlen ⟨hne.1, hne.2.1, hlog⟩).mono ?_
          rintro r w' ⟨rfl, hb2⟩
          have hLw := hlW.new hb2
          rw [← hg] at hLw
          refine ⟨0, rfl, rfl, kpost_of h hb (Below.refl _ _) hE (rv := rv) (Fr.ofBelow hb2 _) (hdW.new hb2) hLw (fun j hj => .inl hj) ?_⟩
          rw [hg]
          exact ⟨hP.cl.mono (by omega), hP.file, hP.rd, hP.len, hP.ok, hP.sm⟩
        · refine write_add (h := hdOf A) hN hlW hok hP.ok.len hE hKW hbi hlen hne (fun W' hb2 v hv => ?_)
          have b2 : Below w.heap.size w W' := hb.trans (hb2.mono hb.size)
          have hal := alikeN_le A.log g.log
          have hrs := recB_small (hdOf A) hok (alikeN A.log g.log) hal.1
          have hbl := baseB_len g hP.ok
          have hfl := frs_len (baseB g :: (R ++ [recB (hdOf A) (alikeN A.log g.log)])) (fun x hx => by
            rcases List.mem_cons.1 hx with rfl | hx
            · exact hbl
            · rcases List.mem_append.1 hx with hx | hx
              · have := hP.sm x hx; omega
              · rw [List.mem_singleton.1 hx]; omega)
          have e1 : frs (baseB g :: R) ++ frs [recB (hdOf A) (alikeN A.log g.log)] = frs (baseB g :: (R ++ [recB (hdOf A) (alikeN A.log g.log)])) := by rw [← frs_append]; rfl
          have hFM : (frs (baseB g :: R) ++ frs [recB (hdOf A) (alikeN A.log g.log)]).length ≤ 1000000000000 := by
            rw [e1]
            simp only [List.length_cons, List.length_append, List.length_nil] at hfl
            omega
          obtain ⟨c1, c2⟩ := hP.cl.more hP.file hFM
          have hT := frs_small hrs
          have hv' : TxO W' 0 v [recB (hdOf A) (alikeN A.log g.log)] := hv
          have hbb := hb_base (A := A) (g := g) ⟨hbi, hsame.1, hsame.2⟩
          refine (add_any (hlW.new hb2) (hdW.new hb2) (Nat.le_trans h.hB b2.size) hP.cl (by decide) (by omega) hv' hT (by simp; omega) (Nat.le_trans hT (by decide))).mono ?_
          rintro r w' ⟨rfl, hD, ⟨rv', hL', hr'⟩, hf⟩
          rw [← hbb] at hL'
          refine ⟨0, rfl, rfl, kpost_of h hb hb2 hE hf hD hL' hr' ⟨c1.mono (by omega), by rw [c2, e1, hbb], ?_, by simp; omega, hok, fun x hx => ?_⟩⟩
          · have k1 := hP.rd.snoc (hdOf A) (alikeN A.log g.log) hok hbi hsame.1 hsame.2 hal.1 hal.2 (alikeN_take A.log g.log).symm
            rw [← hbi, ← hsame.1, ← hsame.2] at k1
            exact k1
          · rcases List.mem_append.1 hx with hx | hx
            · exact hP.sm x hx
            · rw [List.mem_singleton.1 hx]; exact hrs
    refine key.mono ?_
    rintro r w' ⟨e, rfl, rfl, h1, h2, h3, rv', D', R', h4, h5, h6, h7, h8, h9⟩
    exact ⟨rfl, h1, h2, h3, rv', D', R', h1, h2, h4, h5, h6, h7, h8, h9⟩
  · rintro r w' ⟨rfl, lv, w1, ⟨rv', D', R', h1, h2, h4, h5, h6, h7, h8, h9, h10⟩, hN, hf⟩
    refine ⟨rfl, lv, rv', D', R', ?_, h8, h9.trans (hf.below (Nat.le_trans h.hB h9.size) (fun j e => by have := h.nB; omega)), fun i c f hi hn => ?_, h10.2⟩
    rotate_left
    · have hi' := h10.1 i c f hi hn
      refine (hf.block i (lt_blk hi') (fun e => ?_)).trans hi'
      rw [e, h1] at hi'
      cases hi'
    have hq1 : lq ≠ np := fun e => by
      have := h5.blk
      rw [e, h1] at this
      cases this
    refine ⟨hN, dk_keep h4 hf (fun j e => ⟨roC dp lq vp g kv cm at_ false, 87, (0, 0), (by rw [show j = np from e]; exact h1), by decide, by decide⟩), ⟨(hf.block lq (lt_blk h5.blk) hq1).trans h5.blk, h5.row.kept hf (fun j hj e => ?_), h5.hq⟩, h2.kept hf (fun j _ e s => h.nn (e ▸ s)), (h7.kept hf (fun j hj e => ?_)).low h.hB, h.xs, h.nl, h6, h.nn, fun j hj s => ?_, Nat.le_trans (Nat.le_trans h.hB h9.size) hf.size, h.nB, h.SB, fun j s => Nat.lt_of_lt_of_le (h.bd j s) (Nat.le_trans h9.size hf.size)⟩
    · obtain ⟨_, c, f', hm⟩ := h5.row.tag hj
      rw [e, h1] at hm
      cases hm
    · obtain ⟨_, c, f', hm⟩ := vrow_tag h7 hj
      rw [e, h1] at hm
      cases hm
    · have k1 := (vrow_tag h7 hj).1
      have k2 := h.bd j s
      omega
end Go.Proofs.YtnhjflebaeokeaaGreat
end

section
/- rnode: Dead, View, At, Base, tell. -/
namespace Go.Proofs.YtnhjflebaeokeaaGreat
open Go.RowKit
attribute [local go_sem] Oper.semAt_some
variable {Xm : Nat → Prop}
section
variable {w w' : World} {S : Nat → Prop} {B np dp lq vp k : Nat} {A : Nd} {g : Hd} {kv rv : Value} {cm at_ : Int} {D : Dk} {R : List Bs}
/-- The node's own block was written. -/
theorem RA.own (h : RA Xm w S B np dp lq vp A g kv rv cm at_ D R) (hf : Fr w w' (fun k => k = np)) {at' : Int} (hN : w'.heap[np]? = some (.cells (roC dp lq vp g kv cm at' false) 87 (0, 0))) : RA Xm w' S B np dp lq vp A g kv rv cm at' D R := by
  have hq1 : lq ≠ np := fun e => by
    have := h.log.blk
    rw [e, h.blk] at this
    cases this
  refine ⟨hN, dk_keep h.disk hf (fun j e => ⟨roC dp lq vp g kv cm at_ false, 87, (0, 0), (by rw [show j = np from e]; exact h.blk), by decide, by decide⟩), ⟨(hf.block lq (lt_blk h.log.blk) hq1).trans h.log.blk, h.log.row.kept hf (fun j hj e => ?_), h.log.hq⟩, h.view.kept hf (fun j _ e s => h.nn (e ▸ s)), h.kept.kept hf (fun j hj e => ?_), h.xs, h.nl, h.nr, h.nn, h.nk, Nat.le_trans h.hB hf.size, h.nB, h.SB, fun j s => Nat.lt_of_lt_of_le (h.bd j s) hf.size⟩
  · obtain ⟨_, c, f', hm⟩ := h.log.row.tag hj
    rw [e, h.blk] at hm
    cases hm
  · obtain ⟨_, c, f', hm⟩ := vrow_tag h.kept hj
    rw [e, h.blk] at hm
    cases hm
theorem RA.new (h : RA Xm w S B np dp lq vp A g kv rv cm at_ D R) (hb : Below w.heap.size w w') : RA Xm w' S B np dp lq vp A g kv rv cm at_ D R :=
  ⟨(hb.block np (vlt_blk h.blk)).trans h.blk, h.disk.new hb, h.log.new hb, h.view.new hb, h.kept.new hb, h.xs, h.nl, h.nr, h.nn, h.nk, Nat.le_trans h.hB hb.size, h.nB, h.SB, fun j s => Nat.lt_of_lt_of_le (h.bd j s) hb.size⟩
/-- A call of the master in view: its blocks were written, new ones were laid. -/
theorem DkAt.grow {B p : Nat} {A : Dk} (h : DkAt Xm w B p A) (hf : Fr w w' S) (hS : ∀ k, S k → Xm k) : DkAt (fun k => Xm k ∨ (w.heap.size ≤ k ∧ k < w'.heap.size)) w' B p A := by
  have h2 := h.kept hf hS
  obtain ⟨mn, ms, lv, h⟩ := h
  have h' : DA Xm w' B p A mn ms lv := h.kept hf (fun k s => ⟨fun e => h.nx k (.inl e) (hS k s), fun e => h.nx k (.inr (.inl e)) (hS k s), fun e => h.nx k (.inr (.inr (.inl e))) (hS k s), fun e => h.nx k (.inr (.inr (.inr e))) (hS k s)⟩)
  refine ⟨mn, ms, lv, { h' with nx := fun k e hx => ?_, lx := fun k hx => ?_ }⟩
  · rcases hx with hx | hx
    · exact h.nx k e hx
    · rcases e with e | e | e | e
      · have := h.plt
        omega
      · obtain ⟨es, c, hm⟩ := map_tag h.now e
        have := lt_blk hm
        omega
      · obtain ⟨es, c, hm⟩ := map_tag h.sure e
        have := lt_blk hm
        omega
      · obtain ⟨_, c, f, hm⟩ := row_tag h.row e
        have := lt_blk hm
        omega
  · rcases hx with hx | hx
    · exact h'.lx k hx
    · exact hx.2
theorem RA.viewed (h : RA Xm w S B np dp lq vp A g kv rv cm at_ D R) (hf : Fr w w' S) {A' : Nd} (hV : NdAt w' (fun k => S k ∨ w.heap.size ≤ k) vp A') : RA (fun k => Xm k ∨ (w.heap.size ≤ k ∧ k < w'.heap.size)) w' (fun k => S k ∨ (w.heap.size ≤ k ∧ k < w'.heap.size)) B np dp lq vp A' g kv rv cm at_ D R := by
  refine ⟨(hf.block np (vlt_blk h.blk) h.nn).trans h.blk, h.disk.grow hf h.xs, ⟨(hf.block lq (lt_blk h.log.blk) h.nl).trans h.log.blk, h.log.row.kept hf h.nr, h.log.hq⟩, hV.mono (fun k hk s => ?_), h.kept.kept hf h.nk, fun k s => ?_, ?_, fun k hk => ?_, ?_, fun k hk => ?_, Nat.le_trans h.hB hf.size, h.nB, fun k s => ?_, fun k s => ?_⟩
  · rcases s with s | s
    · exact .inl s
    · exact .inr ⟨s, hk⟩
  · rcases s with s | s
    · exact .inl (h.xs k s)
    · exact .inr s
  · rintro (s | s)
    · exact h.nl s
    · have := lt_blk h.log.blk
      omega
  · rintro (s | s)
    · exact h.nr k hk s
    · obtain ⟨_, c, f, hm⟩ := h.log.row.tag hk
      have := lt_blk hm
      omega
  · rintro (s | s)
    · exact h.nn s
    · have := vlt_blk h.blk
      omega
  · rintro (s | s)
    · exact h.nk k hk s
    · obtain ⟨_, c, f, hm⟩ := vrow_tag h.kept hk
      have := vlt_blk hm
      omega
  · rcases s with s | s
    · exact h.SB k s
    · have := h.hB
      omega
  · rcases s with s | s
    · exact Nat.lt_of_lt_of_le (h.bd k s) hf.size
    · exact s.2
set_option maxHeartbeats 1000000 in
theorem tell_ra (h : RA Xm w S B np dp lq vp A g kv rv cm at_ D R) (hA : A.ok) (hok : (hdOf A).ok) (hP : PD D g R k) (hk : k ≤ 80000) (hbs : A.bi ≠ g.bi ∨ (A.bi = g.bi ∧ A.bv = g.bv ∧ A.base = g.base)) (mv : Value) :
    Calls Tryz.prog 36 #[.pointer (some ⟨np, 0, none⟩), mv] w fun r w' => r = .returned (.tuple #[mv, .int .i64 0]) ∧ ∃ kv' rv' D' R', RA Xm w' S B np dp lq vp A (hdOf A) kv' rv' A.cm at_ D' R' ∧ PD D' (hdOf A) R' (k + 2) ∧ Below B w w' ∧ SKp w w' rv rv' := by
  have HK : Hid _ := keep_ra h hA hok hP hk hbs
  clear h hA hok hP hbs
  go_enter Tryz.func36, Tryz.ntmps36
  go_wp2_with (go_at_call 39; refine Calls.mono HK.out ?_; rintro rr w1 ⟨rfl, hx⟩; have HX : Hid _ := hx; clear hx)
  refine bodyPost_ret (results_tmp2 rfl _ _ _) rfl ?_
  exact ⟨rfl, HX.out⟩
set_option maxHeartbeats 1000000 in
theorem dead_ra (h : RA Xm w S B np dp lq vp A g kv rv cm at_ D R) (hd : D.dead = false) : Calls Tryz.prog 22 #[.pointer (some ⟨np, 0, none⟩)] w fun r w' => r = .returned (.bool false) ∧ RA Xm w' S B np dp lq vp A g kv rv cm at_ D R ∧ Fr w w' (fun k => k = np) := by
  have HR : Hid (RA Xm w S B np dp lq vp A g kv rv cm at_ D R) := h
  have HD : Hid (Calls Tryz.prog 40 #[.pointer (some ⟨dp, 0, none⟩)] w fun r w' => r = .returned (.bool false) ∧ w' = w) := by
    obtain ⟨mn, ms, lv, hDA⟩ := h.disk
    have := dead_any hDA
    rw [hd] at this
    exact this
  have hb := h.blk
  unfold roC at hb
  obtain ⟨c0, c1, c2, c3, c4, c5, c8, c9, c10, c11⟩ := robox hb
  have f11 := vfree hb 11
  have HFin : Hid (RA Xm (w.setCell ⟨np, 11, none⟩ (.bool false)) S B np dp lq vp A g kv rv cm at_ D R ∧ Fr w (w.setCell ⟨np, 11, none⟩ (.bool false)) (fun k => k = np)) := by
    have fs : Fr w (w.setCell ⟨np, 11, none⟩ (.bool false)) (fun k => k = np) := Fr.setCell (S := fun k => k = np) _ ⟨np, 11, none⟩ _ rfl
    exact ⟨h.own fs (vblk_set (i := 11) (.bool false) h.blk), fs⟩
  have c11' : (w.setCell ⟨np, 11, none⟩ (.bool false)).cell? ⟨np, 11, none⟩ = some (.bool false) := by
    have := (robox (show (w.setCell ⟨np, 11, none⟩ (.bool false)).heap[np]? = _ from vblk_set (i := 11) (.bool false) hb))
    exact this.2.2.2.2.2.2.2.2.2
  clear h hb hd
  go_enter Tryz.func22, Tryz.ntmps22
  go_wp2_with (go_at_call 40; refine HD.out.mono ?_; rintro rr wz ⟨rfl, hz⟩; rw [hz]; clear hz)
  go_ret
  exact ⟨rfl, HFin.out.1, HFin.out.2⟩
end
end Go.Proofs.YtnhjflebaeokeaaGreat
end

section
/- rnode: a master alone on its disk: Tick, Propose. -/
namespace Go.Proofs.YtnhjflebaeokeaaGreat
open Go.RowKit
attribute [local go_sem] Oper.semAt_some
/-- Others' rows of texts (J): none of the node's. -/
def JO (J : Nat → Prop) (w : World) (S : Nat → Prop) (rv : Value) : Prop := ∀ i, J i → ¬ S i ∧ rv.ownBlock ≠ some i ∧ ∃ c f, w.heap[i]? = some (.cells c 9 f)
/-- They are as they were. -/
def JK (J : Nat → Prop) (w w' : World) : Prop := ∀ i, J i → w'.heap[i]? = w.heap[i]?
theorem JK.trans {J : Nat → Prop} {a b c : World} (h : JK J a b) (k : JK J b c) : JK J a c := fun i hi => (k i hi).trans (h i hi)
section
variable {J : Nat → Prop} {w w' : World} {S : Nat → Prop} {rv rv' : Value}
theorem JO.of (h : JO J w S rv) (hk : JK J w w') : JO J w' S rv := fun i hi => by
  obtain ⟨h1, h2, c, f, h3⟩ := h i hi
  exact ⟨h1, h2, c, f, (hk i hi).trans h3⟩
theorem JO.new (h : JO J w S rv) (hb : Below w.heap.size w w') : JK J w w' := fun i hi => by
  obtain ⟨_, _, c, f, h3⟩ := h i hi
  exact hb.block i (vlt_blk h3)
theorem JO.own {Xm : Nat → Prop} {B np dp lq vp : Nat} {A : Nd} {g : Hd} {kv rv0 : Value} {cm at_ : Int} {D : Dk} {R : List Bs} (h : JO J w S rv) (hR : RA Xm w S B np dp lq vp A g kv rv0 cm at_ D R) (hf : Fr w w' (fun k => k = np)) : JK J w w' := fun i hi => by
  obtain ⟨_, _, c, f, h3⟩ := h i hi
  refine hf.block i (vlt_blk h3) (fun e => ?_)
  rw [e, hR.blk] at h3
  cases h3
theorem JO.seen (h : JO J w S rv) (hf : Fr w w' S) : JK J w w' := fun i hi => by
  obtain ⟨h1, _, c, f, h3⟩ := h i hi
  exact hf.block i (vlt_blk h3) h1
theorem JO.more (h : JO J w S rv) (n : Nat) : JO J w (fun k => S k ∨ (w.heap.size ≤ k ∧ k < n)) rv := fun i hi => by
  obtain ⟨h1, h2, c, f, h3⟩ := h i hi
  refine ⟨fun s => ?_, h2, c, f, h3⟩
  rcases s with s | s
  · exact h1 s
  · have := vlt_blk h3
    omega
theorem JO.told (h : JO J w S rv) (hs : SKp w w' rv rv') : JK J w w' ∧ JO J w' S rv' := by
  have hk : JK J w w' := fun i hi => by
    obtain ⟨_, h2, c, f, h3⟩ := h i hi
    exact (hs.1 i c f h3 h2).trans h3.symm
  refine ⟨hk, fun i hi => ?_⟩
  obtain ⟨h1, h2, c, f, h3⟩ := h i hi
  refine ⟨h1, fun e => ?_, c, f, (hk i hi).trans h3⟩
  rcases hs.2 i e with e | e
  · exact h2 e
  · have := vlt_blk h3
    omega
end
def RK (J : Nat → Prop) (w : World) (B np dp : Nat) (A : Nd) (at_ : Int) (k : Nat) : Prop := ∃ Xm S lq vp kv rv D R, RA Xm w S B np dp lq vp A (hdOf A) kv rv A.cm at_ D R ∧ PD D (hdOf A) R k ∧ Alone A ∧ A.tk ≤ 2 ∧ JO J w S rv
theorem PD.live {D : Dk} {g : Hd} {R : List Bs} {k : Nat} (h : PD D g R k) : D.dead = false := h.cl.dead
theorem below_np {w w' : World} {B np : Nat} (hB : B ≤ w.heap.size) (hn : B ≤ np) (f : Fr w w' (fun k => k = np)) : Below B w w' := f.below hB (fun k hk => by omega)
set_option maxHeartbeats 1000000 in
theorem tick_rk {J : Nat → Prop} {w : World} {B np dp k : Nat} {A : Nd} {at_ : Int} (h : RK J w B np dp A at_ k) (hk : k ≤ 80000) :
    Calls Tryz.prog 10 #[.pointer (some ⟨np, 0, none⟩)] w fun r w' => r = .returned (.tuple #[.slice none 0 0, .int .i64 0]) ∧ (∃ t, RK J w' B np dp (A.tkd t) at_ (k + 2)) ∧ Below B w w' ∧ JK J w w' := by
  obtain ⟨Xm, S, lq, vp, kv, rv, D, R, hR, hP, hA, ht, hJ⟩ := h
  have HJ : Hid (JO J w S rv) := hJ
  clear hJ
  have HR : Hid (RA Xm w S B np dp lq vp A (hdOf A) kv rv A.cm at_ D R) := hR
  have HP : Hid (PD D (hdOf A) R k) := hP
  have HA : Hid (Alone A) := hA
  have HT : Hid (A.tk ≤ 2) := ht
  have HD : Hid (Calls Tryz.prog 22 #[.pointer (some ⟨np, 0, none⟩)] w fun r w' => r = .returned (.bool false) ∧ RA Xm w' S B np dp lq vp A (hdOf A) kv rv A.cm at_ D R ∧ Fr w w' (fun k => k = np)) := dead_ra hR hP.live
  clear hR hP hA ht
  go_enter Tryz.func10, Tryz.ntmps10
  go_upto_region 3 with (go_at_call 22; refine Calls.mono HD.out ?_; rintro rr w1 ⟨rfl, hR1, hf1⟩; have HR1 : Hid (RA Xm w1 S B np dp lq vp A (hdOf A) kv rv A.cm at_ D R) := hR1; have HB1 : Hid (Below B w w1) := below_np HR.out.hB HR.out.nB hf1; have HK1 : Hid (JK J w w1) := HJ.out.own HR.out hf1; clear hR1 hf1)
  have hbk := HR1.out.blk
  unfold roC at hbk
  obtain ⟨c0, c1, c2, -⟩ := robox hbk
  have HTk : Hid (Calls Tryz.prog 37 #[.pointer (some ⟨vp, 0, none⟩)] w1 fun r w' => ∃ t, r = .returned (.slice none 0 0) ∧ AS w' S vp (A.tkd t) ∧ 0 ≤ t ∧ t ≤ 2 ∧ Fr w1 w' S) := tick_as ⟨HR1.out.view, HA.out⟩ HT.out
  clear hbk
  go_wp2_with (first
    | (go_at_call 37; refine Calls.mono HTk.out ?_; rintro rr w2 ⟨t, rfl, hA2, h0, h2, hf2⟩; have HR2 : Hid _ := HR1.out.viewed hf2 (hA2.1.mono (T := fun k => S k ∨ w1.heap.size ≤ k) (fun _ _ s => .inl s)); have HA2 : Hid (Alone (A.tkd t)) := hA2.2; have HT2 : Hid ((A.tkd t).tk ≤ 2) := h2; have HB2 : Hid (Below B w w2) := HB1.out.trans (hf2.below (Nat.le_trans HR.out.hB HB1.out.size) HR1.out.SB); have HJ2 : Hid (JK J w w2) := HK1.out.trans ((HJ.out.of HK1.out).seen hf2); have HO2 : Hid (JO J w2 (fun k => S k ∨ (w1.heap.size ≤ k ∧ k < w2.heap.size)) rv) := ((HJ.out.of HK1.out).more w2.heap.size).of ((HJ.out.of HK1.out).seen hf2); clear hA2 h0 h2 hf2)
    | (go_at_call 36; refine Calls.mono (tell_ra HR2.out HA2.out.ok HP.out.ok HP.out hk (.inr ⟨rfl, rfl, rfl⟩) _) ?_; rintro rr w3 ⟨rfl, kv', rv', D', R', hR3, hP3, hb3, hs3⟩; have HX : Hid (RK J w3 B np dp (A.tkd t) at_ (k + 2)) := ⟨_, _, _, _, _, _, _, _, hR3, hP3, HA2.out, HT2.out, (HO2.out.told hs3).2⟩; have HB3 : Hid (Below B w w3) := HB2.out.trans hb3; have HJ3 : Hid (JK J w w3) := HJ2.out.trans (HO2.out.told hs3).1; clear hR3 hP3 hb3 hs3))
  refine bodyPost_ret (results_tmp2 rfl _ _ _) rfl ?_
  exact ⟨rfl, ⟨t, HX.out⟩, HB3.out, HJ3.out⟩
theorem hd_prop (A : Nd) (s : ByteArray) : hdOf (A.proposed s) = ⟨A.vw, A.nm, A.bi, A.bv, A.base, A.log ++ [⟨A.vw, s⟩]⟩ := rfl
theorem prop_ok {A : Nd} {s : ByteArray} (h : (hdOf A).ok) (hl : A.log.length < 1000) (hr : A.base.size + entsN A.log + s.size + 30 ≤ 900000) : (hdOf (A.proposed s)).ok := by
  rw [hd_prop]
  refine ⟨h.vw0, h.vw1, h.nm0, h.nm1, h.bi0, h.bi1, h.bv0, h.bv1, by simp; omega, fun e he => ?_, ?_⟩
  · rcases List.mem_append.1 he with he | he
    · exact h.ev e he
    · rw [List.mem_singleton.1 he]
      exact ⟨h.vw0, h.vw1⟩
  · have : entsN (A.log ++ [(⟨A.vw, s⟩ : Ent)]) = entsN A.log + (s.size + 30) := by unfold entsN; simp
    simp only
    omega
set_option maxHeartbeats 1000000 in
theorem propose_rk {J : Nat → Prop} {w : World} {B np dp k : Nat} {A : Nd} {at_ : Int} (h : RK J w B np dp A at_ k) (hk : k ≤ 80000) (s : ByteArray) (hl : A.log.length < 1000) (hr : A.base.size + entsN A.log + s.size + 30 ≤ 900000) :
    Calls Tryz.prog 19 #[.pointer (some ⟨np, 0, none⟩), .string s] w fun r w' => r = .returned (.tuple #[.int .i64 (A.last + 1), .slice none 0 0, .int .i64 0]) ∧ RK J w' B np dp (A.proposed s) at_ (k + 2) ∧ Below B w w' ∧ JK J w w' := by
  obtain ⟨Xm, S, lq, vp, kv, rv, D, R, hR, hP, hA, ht, hJ⟩ := h
  have HJ : Hid (JO J w S rv) := hJ
  clear hJ
  have HR : Hid (RA Xm w S B np dp lq vp A (hdOf A) kv rv A.cm at_ D R) := hR
  have HP : Hid (PD D (hdOf A) R k) := hP
  have HA : Hid (Alone A) := hA
  have HOk : Hid ((hdOf (A.proposed s)).ok) := prop_ok hP.ok hl hr
  have HT2 : Hid ((A.proposed s).tk ≤ 2) := by show (0 : Int) ≤ 2; decide
  have HD : Hid (Calls Tryz.prog 22 #[.pointer (some ⟨np, 0, none⟩)] w fun r w' => r = .returned (.bool false) ∧ RA Xm w' S B np dp lq vp A (hdOf A) kv rv A.cm at_ D R ∧ Fr w w' (fun k => k = np)) := dead_ra hR hP.live
  clear hR hP hA ht hr
  go_enter Tryz.func19, Tryz.ntmps19
  go_upto_region 3 with (go_at_call 22; refine Calls.mono HD.out ?_; rintro rr w1 ⟨rfl, hR1, hf1⟩; have HR1 : Hid (RA Xm w1 S B np dp lq vp A (hdOf A) kv rv A.cm at_ D R) := hR1; have HB1 : Hid (Below B w w1) := below_np HR.out.hB HR.out.nB hf1; have HK1 : Hid (JK J w w1) := HJ.out.own HR.out hf1; clear hR1 hf1)
  have hbk := HR1.out.blk
  unfold roC at hbk
  obtain ⟨c0, c1, c2, -⟩ := robox hbk
  have HPr : Hid (Calls Tryz.prog 42 #[.pointer (some ⟨vp, 0, none⟩), .string s] w1 fun r w' => r = .returned (.tuple #[.int .i64 (A.last + 1), .slice none 0 0, .bool true]) ∧ AS w' (fun k => S k ∨ w1.heap.size ≤ k) vp (A.proposed s) ∧ Fr w1 w' S) := propose_as ⟨HR1.out.view, HA.out⟩ hl s
  clear hbk
  go_wp2_with (first
    | (go_at_call 42; refine Calls.mono HPr.out ?_; rintro rr w2 ⟨rfl, hA2, hf2⟩; have HR2 : Hid _ := HR1.out.viewed hf2 hA2.1; have HA2 : Hid (Alone (A.proposed s)) := hA2.2; have HB2 : Hid (Below B w w2) := HB1.out.trans (hf2.below (Nat.le_trans HR.out.hB HB1.out.size) HR1.out.SB); have HJ2 : Hid (JK J w w2) := HK1.out.trans ((HJ.out.of HK1.out).seen hf2); have HO2 : Hid (JO J w2 (fun k => S k ∨ (w1.heap.size ≤ k ∧ k < w2.heap.size)) rv) := ((HJ.out.of HK1.out).more w2.heap.size).of ((HJ.out.of HK1.out).seen hf2); clear hA2 hf2)
    | (go_at_call 36; refine Calls.mono (tell_ra HR2.out HA2.out.ok HOk.out HP.out hk (.inr ⟨rfl, rfl, rfl⟩) _) ?_; rintro rr w3 ⟨rfl, kv', rv', D', R', hR3, hP3, hb3, hs3⟩; have HX : Hid (RK J w3 B np dp (A.proposed s) at_ (k + 2)) := ⟨_, _, _, _, _, _, _, _, hR3, hP3, HA2.out, HT2.out, (HO2.out.told hs3).2⟩; have HB3 : Hid (Below B w w3) := HB2.out.trans hb3; have HJ3 : Hid (JK J w w3) := HJ2.out.trans (HO2.out.told hs3).1; clear hR3 hP3 hb3 hs3))
  refine bodyPost_ret (results_tmp3 rfl _ _ _) rfl ?_
  exact ⟨rfl, HX.out, HB3.out, HJ3.out⟩
end Go.Proofs.YtnhjflebaeokeaaGreat
end

section
/- rnode: what is handed out. -/
namespace Go.Proofs.YtnhjflebaeokeaaGreat
open Go.RowKit
attribute [local go_sem] Oper.semAt_some
theorem size_given : (Tryz.prog.info? 73).map (·.size) = some 4 := by kernel_rfl
theorem six_range {w : World} {b : Nat} {t : TypeId} {x0 x1 x2 x3 x4 x5 x6 x7 x8 x9 x10 x11 : Value} (h : w.heap[b]? = some (.cells #[x0, x1, x2, x3, x4, x5, x6, x7, x8, x9, x10, x11] t (0, 0))) : w.rangeAt b 3 [x3, x4, x5, x6, x7, x8] := by
  intro j v hv
  rw [vcell_blk h]
  match j, hv with
  | 0, hv => simpa using hv
  | 1, hv => simpa using hv
  | 2, hv => simpa using hv
  | 3, hv => simpa using hv
  | 4, hv => simpa using hv
  | 5, hv => simpa using hv
theorem RK.new {J : Nat → Prop} {w w' : World} {B np dp k : Nat} {A : Nd} {at_ : Int} (h : RK J w B np dp A at_ k) (hb : Below w.heap.size w w') : RK J w' B np dp A at_ k := by
  obtain ⟨Xm, S, lq, vp, kv, rv, D, R, hR, hP, hA, ht, hJ⟩ := h
  exact ⟨Xm, S, lq, vp, kv, rv, D, R, hR.new hb, hP, hA, ht, hJ.of (hJ.new hb)⟩
set_option linter.unusedSimpArgs false in
set_option maxRecDepth 100000 in
set_option maxHeartbeats 2000000 in
theorem next_none_ra {Xm S : Nat → Prop} {w : World} {B np dp lq vp : Nat} {A : Nd} {kv rv : Value} {at_ : Int} {D : Dk} {R : List Bs} (hR : RA Xm w S B np dp lq vp A (hdOf A) kv rv A.cm at_ D R) (h1 : A.bi ≤ at_) (h2 : A.cm ≤ at_) :
    Calls Tryz.prog 31 #[.pointer (some ⟨np, 0, none⟩)] w fun r w' => r = .returned (.tuple #[.agg #[.int .i64 0, .int .i64 0, .string (str []), .bool false], .bool false]) ∧ Below w.heap.size w w' := by
  obtain ⟨ko, kn, kc, rfl⟩ : ∃ ko kn kc, kv = .slice ko kn kc := (by obtain ⟨a, b, e, -⟩ := hR.kept.shape; exact ⟨a, _, b, e⟩)
  have HBlk : Hid (w.heap[np]? = some (.cells #[.pointer (some ⟨dp, 0, none⟩), .pointer (some ⟨lq, 0, none⟩), .pointer (some ⟨vp, 0, none⟩), .int .i64 A.vw, .int .i64 A.nm, .int .i64 A.bi, .int .i64 A.bv, .string A.base, .slice ko kn kc, .int .i64 A.cm, .int .i64 at_, .bool false] 87 (0, 0))) := hR.blk
  clear hR
  go_enter Tryz.func31, Tryz.ntmps31
  go_upto_region 3 with (fail)
  generalize hW : World.alloc _ _ = W
  have b0 : Below w.heap.size w W := by rw [← hW]; exact vone_new _ _
  have hZ : W.heap[w.heap.size]? = some (.cells #[.int .i64 0, .int .i64 0, .string (str []), .bool false] 73 (0, 0)) := by rw [← hW]; exact heap_alloc_new _ _
  obtain ⟨q, hq⟩ : ∃ q, w.heap.size = q := ⟨_, rfl⟩
  have HQ : Hid (w.heap.size = q) := hq
  rw [hq] at hZ ⊢
  have HB0 : Hid (Below w.heap.size w W) := b0
  have HZ : Hid _ := hZ
  have hN0 := (b0.block np (vlt_blk HBlk.out)).trans HBlk.out
  have HN0 : Hid _ := hN0
  clear hW b0 hZ hq
  go_upto_region 4 with (first
    | (refine wpList_load_mid rfl 66 _ rfl np 3 rfl [.int .i64 A.vw, .int .i64 A.nm, .int .i64 A.bi, .int .i64 A.bv, .string A.base, .slice ko kn kc] _ (six_range HN0.out) Tryz.underlying66 rfl size_hard ?_)
    | (refine wpList_store_row rfl 66 _ _ rfl _ #[.int .i64 A.vw, .int .i64 A.nm, .int .i64 A.bi, .int .i64 A.bv, .string A.base, .slice ko kn kc] rfl rfl 66 #[.int .i64 0, .int .i64 0, .int .i64 0, .int .i64 0, .string (str []), .slice none 0 0] (heap_alloc_new _ _) size_hard rfl (by simp [Value.oneCell']) ?_))
  generalize hW2 : World.setRow _ _ _ = W2
  have hbx : W2.heap[W.heap.size]? = some (.cells #[.int .i64 A.vw, .int .i64 A.nm, .int .i64 A.bi, .int .i64 A.bv, .string A.base, .slice ko kn kc] 66 (0, 0)) := by rw [← hW2]; exact setRow_heap _ _ _ _ _ _ (heap_alloc_new _ _)
  have hb2 : Below W.heap.size W W2 := by rw [← hW2]; exact ((Fr.alloc W _ (fun _ => False)).trans (vfr_setRow _ _ _) (fun i hi e => absurd e (by omega))).below (Nat.le_refl _) (fun _ h => h.elim)
  have HB2 : Hid (Below w.heap.size w W2) := HB0.out.trans (hb2.mono HB0.out.size)
  have hN2 := (hb2.block np (vlt_blk HN0.out)).trans HN0.out
  have HN2 : Hid _ := hN2
  have HZ2 : Hid _ := (hb2.block q (vlt_blk HZ.out)).trans HZ.out
  obtain ⟨b, hbb⟩ : ∃ b, W.heap.size = b := ⟨_, rfl⟩
  rw [hbb] at hbx ⊢
  have HBx : Hid _ := hbx
  obtain ⟨x0, x1, x2, x3, x4, x5⟩ := hbox6 hbx
  obtain ⟨c0, c1, c2, c3, c4, c5, c8, c9, c10, c11⟩ := robox hN2
  have hdec1 : decide (at_ < A.bi) = false := by simp; omega
  clear hW2 hbx hb2 hN2 hbb hN0
  go_quiet (fail)
  go_upto_region 7 with (fail)
  have hdec2 : decide (A.cm ≤ at_) = true := by simpa using h2
  have HZ4 : Hid (∀ n, (W2.drewN n).heap[q]? = some (.cells #[.int .i64 0, .int .i64 0, .string (str []), .bool false] 73 (0, 0))) := fun n => HZ2.out
  go_quiet (fail)
  go_wp2_with (refine wpList_store_row rfl 73 _ _ rfl q #[.int .i64 0, .int .i64 0, .string (str []), .bool false] rfl rfl 73 #[.int .i64 0, .int .i64 0, .string (str []), .bool false] (HZ4.out _) size_given rfl (by simp [Value.oneCell']) ?_)
  refine bodyPost_ret (v := .tuple #[.agg #[.int .i64 0, .int .i64 0, .string (str []), .bool false], .bool false]) (res_ctV Tryz.results31 _ _ q 73 _ (0, 0) _ rfl (setRow_heap _ _ _ _ _ _ (HZ4.out _)) Tryz.underlying73 rfl size_given) rfl ?_
  have fin : ∀ n, Below w.heap.size w ((W2.drewN n).setRow q #[.int .i64 0, .int .i64 0, .string (str []), .bool false]) := fun n => by
    have k1 : Below w.heap.size w (W2.drewN n) := HB2.out.trans ((below_dn _ _).mono HB2.out.size)
    exact k1.trans ((vfr_setRow _ q _).below k1.size (fun k hk => by have := HQ.out; omega))
  exact ⟨rfl, fin _⟩
end Go.Proofs.YtnhjflebaeokeaaGreat
end

section
/- rnode: an entry is handed out. -/
namespace Go.Proofs.YtnhjflebaeokeaaGreat
open Go.RowKit
attribute [local go_sem] Oper.semAt_some
set_option linter.unusedSimpArgs false in
set_option maxRecDepth 100000 in
set_option maxHeartbeats 2000000 in
theorem next_some_ra {Xm S : Nat → Prop} {w : World} {B np dp lq vp : Nat} {A : Nd} {kv rv : Value} {at_ : Int} {D : Dk} {R : List Bs} (hR : RA Xm w S B np dp lq vp A (hdOf A) kv rv A.cm at_ D R) (hA : Alone A) {j : Nat} (hj : j < A.log.length) (h1 : at_ = A.bi + j) (h2 : at_ < A.cm) (h3 : at_ ≤ 3000000000) :
    Calls Tryz.prog 31 #[.pointer (some ⟨np, 0, none⟩)] w fun r w' => r = .returned (.tuple #[.agg #[.int .i64 (at_ + 1), .int .i64 A.log[j].v, .string A.log[j].s, .bool false], .bool true]) ∧ RA Xm w' S B np dp lq vp A (hdOf A) kv rv A.cm (at_ + 1) D R ∧ Fr w w' (fun k => k = np) := by
  obtain ⟨kg, kn, kc, rfl, hkn, hkc⟩ : ∃ kg kn kc, kv = .slice (some ⟨kg, 0, none⟩) kn kc ∧ kn = A.log.length ∧ kn ≤ kc := by
    obtain ⟨a, b, e, hcc, hg⟩ := hR.kept.shape
    obtain ⟨g, e2⟩ := hg (by show 0 < A.log.length; omega)
    exact ⟨g, A.log.length, b, by rw [e, e2]; rfl, rfl, hcc⟩
  have hcells := hR.kept.at_ j (show j < (hdOf A).log.length from hj)
  have HR : Hid (RA Xm w S B np dp lq vp A (hdOf A) (.slice (some ⟨kg, 0, none⟩) kn kc) rv A.cm at_ D R) := hR
  obtain ⟨⟨ev, es⟩, hee⟩ : ∃ y, A.log[j] = y := ⟨_, rfl⟩
  have hc0 : w.cell? ⟨kg, j * 2, none⟩ = some (.int .i64 ev) ∧ w.cell? ⟨kg, j * 2 + 1, none⟩ = some (.string es) := by
    have hee' : (hdOf A).log[j]'(show j < (hdOf A).log.length from hj) = ⟨ev, es⟩ := hee
    rw [hee'] at hcells
    exact hcells
  have HCe : Hid _ := hc0
  rw [hee]
  have hjk : (j : Int) < kn := by omega
  have hj0 : (0 : Int) ≤ j := by omega
  have hsub : at_ - A.bi = j := by omega
  have hjb : (j : Int) ≤ 1000 := by have := hA.ok.len; omega
  have ha0 : 0 ≤ at_ := by have := hA.ok.bi0; omega
  have hwa : IntKind.i64.wrap (at_ + 1) = at_ + 1 := by rw [IntKind.wrap_i64]; omega
  have hwj : IntKind.i64.wrap (j : Int) = (j : Int) := by rw [IntKind.wrap_i64]; omega
  have HBlk : Hid (w.heap[np]? = some (.cells #[.pointer (some ⟨dp, 0, none⟩), .pointer (some ⟨lq, 0, none⟩), .pointer (some ⟨vp, 0, none⟩), .int .i64 A.vw, .int .i64 A.nm, .int .i64 A.bi, .int .i64 A.bv, .string A.base, .slice (some ⟨kg, 0, none⟩) kn kc, .int .i64 A.cm, .int .i64 at_, .bool false] 87 (0, 0))) := hR.blk
  have H1 : Hid (at_ = A.bi + j) := h1
  have HKn : Hid (kn = A.log.length) := hkn
  have HJl : Hid (j < A.log.length) := hj
  clear hR hA hcells hc0 hee h1 hkn hj
  go_enter Tryz.func31, Tryz.ntmps31
  go_upto_region 3 with (fail)
  generalize hW : World.alloc _ _ = W
  have b0 : Below w.heap.size w W := by rw [← hW]; exact vone_new _ _
  have hZ : W.heap[w.heap.size]? = some (.cells #[.int .i64 0, .int .i64 0, .string (str []), .bool false] 73 (0, 0)) := by rw [← hW]; exact heap_alloc_new _ _
  obtain ⟨q, hq⟩ : ∃ q, w.heap.size = q := ⟨_, rfl⟩
  have HQ : Hid (w.heap.size = q) := hq
  rw [hq] at hZ ⊢
  have HB0 : Hid (Below w.heap.size w W) := b0
  have HZ : Hid _ := hZ
  have hN0 := (b0.block np (vlt_blk HBlk.out)).trans HBlk.out
  have HN0 : Hid _ := hN0
  clear hW b0 hZ hq
  go_upto_region 4 with (first
    | (refine wpList_load_mid rfl 66 _ rfl np 3 rfl [.int .i64 A.vw, .int .i64 A.nm, .int .i64 A.bi, .int .i64 A.bv, .string A.base, .slice (some ⟨kg, 0, none⟩) kn kc] _ (six_range HN0.out) Tryz.underlying66 rfl size_hard ?_)
    | (refine wpList_store_row rfl 66 _ _ rfl _ #[.int .i64 A.vw, .int .i64 A.nm, .int .i64 A.bi, .int .i64 A.bv, .string A.base, .slice (some ⟨kg, 0, none⟩) kn kc] rfl rfl 66 #[.int .i64 0, .int .i64 0, .int .i64 0, .int .i64 0, .string (str []), .slice none 0 0] (heap_alloc_new _ _) size_hard rfl (by simp [Value.oneCell']) ?_))
  generalize hW2 : World.setRow _ _ _ = W2
  have hbx : W2.heap[W.heap.size]? = some (.cells #[.int .i64 A.vw, .int .i64 A.nm, .int .i64 A.bi, .int .i64 A.bv, .string A.base, .slice (some ⟨kg, 0, none⟩) kn kc] 66 (0, 0)) := by rw [← hW2]; exact setRow_heap _ _ _ _ _ _ (heap_alloc_new _ _)
  have hb2 : Below W.heap.size W W2 := by rw [← hW2]; exact ((Fr.alloc W _ (fun _ => False)).trans (vfr_setRow _ _ _) (fun i hi e => absurd e (by omega))).below (Nat.le_refl _) (fun _ h => h.elim)
  have HB2 : Hid (Below w.heap.size w W2) := HB0.out.trans (hb2.mono HB0.out.size)
  have hN2 := (hb2.block np (vlt_blk HN0.out)).trans HN0.out
  have HN2 : Hid _ := hN2
  have HZ2 : Hid _ := (hb2.block q (vlt_blk HZ.out)).trans HZ.out
  obtain ⟨b, hbb⟩ : ∃ b, W.heap.size = b := ⟨_, rfl⟩
  rw [hbb] at hbx ⊢
  have HBx : Hid _ := hbx
  obtain ⟨x0, x1, x2, x3, x4, x5⟩ := hbox6 hbx
  obtain ⟨c0, c1, c2, c3, c4, c5, c8, c9, c10, c11⟩ := robox hN2
  have hdec1 : decide (at_ < A.bi) = false := by have := H1.out; simp; omega
  clear hW2 hbx hb2 hN2 hbb hN0
  go_quiet (fail)
  go_upto_region 7 with (fail)
  have hdec2 : decide (A.cm ≤ at_) = false := by simp; omega
  go_quiet (fail)
  go_upto_region 9 with (fail)
  generalize hWv : World.drewN (World.drewN W2 _) _ = Wv
  have bv : Below W2.heap.size W2 Wv := by rw [← hWv]; exact ⟨rfl, rfl, rfl, Nat.le_refl _, fun _ _ => rfl⟩
  obtain ⟨We, hWe⟩ : ∃ We, Wv.drew = We := ⟨_, rfl⟩
  have be : Below W2.heap.size W2 We := by rw [← hWe]; exact Below.drew bv
  have HBe : Hid (Below w.heap.size w We) := HB2.out.trans (be.mono HB2.out.size)
  have hNe : We.heap[np]? = some (.cells #[.pointer (some ⟨dp, 0, none⟩), .pointer (some ⟨lq, 0, none⟩), .pointer (some ⟨vp, 0, none⟩), .int .i64 A.vw, .int .i64 A.nm, .int .i64 A.bi, .int .i64 A.bv, .string A.base, .slice (some ⟨kg, 0, none⟩) kn kc, .int .i64 A.cm, .int .i64 at_, .bool false] 87 (0, 0)) := (be.block np (vlt_blk HN2.out)).trans HN2.out
  have hXe : We.heap[b]? = some (.cells #[.int .i64 A.vw, .int .i64 A.nm, .int .i64 A.bi, .int .i64 A.bv, .string A.base, .slice (some ⟨kg, 0, none⟩) kn kc] 66 (0, 0)) := (be.block b (vlt_blk HBx.out)).trans HBx.out
  have HZe : Hid (We.heap[q]? = some (.cells #[.int .i64 0, .int .i64 0, .string (str []), .bool false] 73 (0, 0))) := (be.block q (vlt_blk HZ2.out)).trans HZ2.out
  have HNe : Hid (We.heap[np]? = some (.cells #[.pointer (some ⟨dp, 0, none⟩), .pointer (some ⟨lq, 0, none⟩), .pointer (some ⟨vp, 0, none⟩), .int .i64 A.vw, .int .i64 A.nm, .int .i64 A.bi, .int .i64 A.bv, .string A.base, .slice (some ⟨kg, 0, none⟩) kn kc, .int .i64 A.cm, .int .i64 at_, .bool false] 87 (0, 0))) := hNe
  have y5 := (hbox6 hXe).2.2.2.2.2
  have y2 := (hbox6 hXe).2.2.1
  have y10 := (robox hNe).2.2.2.2.2.2.2.2.1
  have k0 := (HBe.out.cell (p := ⟨kg, j * 2, none⟩) (vlt_cell HCe.out.1)).trans HCe.out.1
  have k1 := (HBe.out.cell (p := ⟨kg, j * 2 + 1, none⟩) (vlt_cell HCe.out.2)).trans HCe.out.2
  refine wp_calmV ?_
  refine wp_region_L [12] (fun w' : World => w'.cell? ⟨b, 5, none⟩ = some (.slice (some ⟨kg, 0, none⟩) kn kc) ∧ w'.cell? ⟨b, 2, none⟩ = some (.int .i64 A.bi) ∧ w'.cell? ⟨np, 10, none⟩ = some (.int .i64 at_) ∧ w'.cell? ⟨kg, (j * 2), none⟩ = some (.int .i64 ev) ∧ w'.cell? ⟨kg, (j * 2 + 1), none⟩ = some (.string es)) (by kernel_rfl) ?_
  rw [hWe]
  have hS : (fun w' : World => w'.cell? ⟨b, 5, none⟩ = some (.slice (some ⟨kg, 0, none⟩) kn kc) ∧ w'.cell? ⟨b, 2, none⟩ = some (.int .i64 A.bi) ∧ w'.cell? ⟨np, 10, none⟩ = some (.int .i64 at_) ∧ w'.cell? ⟨kg, (j * 2), none⟩ = some (.int .i64 ev) ∧ w'.cell? ⟨kg, (j * 2 + 1), none⟩ = some (.string es)) We := ⟨y5, y2, y10, k0, k1⟩
  clear hWe hWv bv be x0 x1 x2 x3 x4 x5 c0 c1 c2 c3 c4 c5 c8 c9 c10 c11 hNe hXe
  refine wpAnyL_take (i := 0) 42 (v := .pointer (some ⟨b, 5, none⟩)) rfl rfl (by kernel_rfl) (by kernel_rfl) (by kernel_rfl) (by kernel_rfl) (by kernel_rfl) (by kernel_rfl) (fun _ _ _ h => h) hS (by rfl) (by intro w' hSw; obtain ⟨y0, y1, y2, y3, y4⟩ := hSw; go_simp <;> with_reducible rfl) ?_
  simp only [Act.put, List.setIfInBounds_toArray, List.set_cons_zero, List.set_cons_succ]
  refine wpAnyL_take (i := 1) 43 (v := .slice (some ⟨kg, 0, none⟩) kn kc) rfl rfl (by kernel_rfl) (by kernel_rfl) (by kernel_rfl) (by kernel_rfl) (by kernel_rfl) (by kernel_rfl) (fun _ _ _ h => h) hS (by rfl) (by intro w' hSw; obtain ⟨y0, y1, y2, y3, y4⟩ := hSw; go_simp <;> with_reducible rfl) ?_
  simp only [Act.put, List.setIfInBounds_toArray, List.set_cons_zero, List.set_cons_succ]
  refine wpAnyL_take (i := 2) 44 (v := .pointer (some ⟨np, 0, none⟩)) rfl rfl (by kernel_rfl) (by kernel_rfl) (by kernel_rfl) (by kernel_rfl) (by kernel_rfl) (by kernel_rfl) (fun _ _ _ h => h) hS (by rfl) (by intro w' hSw; obtain ⟨y0, y1, y2, y3, y4⟩ := hSw; go_simp <;> with_reducible rfl) ?_
  simp only [Act.put, List.setIfInBounds_toArray, List.set_cons_zero, List.set_cons_succ]
  refine wpAnyL_take (i := 3) 45 (v := .pointer (some ⟨np, 0, none⟩)) rfl rfl (by kernel_rfl) (by kernel_rfl) (by kernel_rfl) (by kernel_rfl) (by kernel_rfl) (by kernel_rfl) (fun _ _ _ h => h) hS (by rfl) (by intro w' hSw; obtain ⟨y0, y1, y2, y3, y4⟩ := hSw; go_simp <;> with_reducible rfl) ?_
  simp only [Act.put, List.setIfInBounds_toArray, List.set_cons_zero, List.set_cons_succ]
  refine wpAnyL_take (i := 4) 46 (v := .pointer (some ⟨np, 10, none⟩)) rfl rfl (by kernel_rfl) (by kernel_rfl) (by kernel_rfl) (by kernel_rfl) (by kernel_rfl) (by kernel_rfl) (fun _ _ _ h => h) hS (by rfl) (by intro w' hSw; obtain ⟨y0, y1, y2, y3, y4⟩ := hSw; go_simp <;> with_reducible rfl) ?_
  simp only [Act.put, List.setIfInBounds_toArray, List.set_cons_zero, List.set_cons_succ]
  refine wpAnyL_take (i := 5) 47 (v := .int .i64 at_) rfl rfl (by kernel_rfl) (by kernel_rfl) (by kernel_rfl) (by kernel_rfl) (by kernel_rfl) (by kernel_rfl) (fun _ _ _ h => h) hS (by rfl) (by intro w' hSw; obtain ⟨y0, y1, y2, y3, y4⟩ := hSw; go_simp <;> with_reducible rfl) ?_
  simp only [Act.put, List.setIfInBounds_toArray, List.set_cons_zero, List.set_cons_succ]
  refine wpAnyL_take (i := 6) 48 (v := .pointer (some ⟨b, 2, none⟩)) rfl rfl (by kernel_rfl) (by kernel_rfl) (by kernel_rfl) (by kernel_rfl) (by kernel_rfl) (by kernel_rfl) (fun _ _ _ h => h) hS (by rfl) (by intro w' hSw; obtain ⟨y0, y1, y2, y3, y4⟩ := hSw; go_simp <;> with_reducible rfl) ?_
  simp only [Act.put, List.setIfInBounds_toArray, List.set_cons_zero, List.set_cons_succ]
  refine wpAnyL_take (i := 7) 49 (v := .int .i64 A.bi) rfl rfl (by kernel_rfl) (by kernel_rfl) (by kernel_rfl) (by kernel_rfl) (by kernel_rfl) (by kernel_rfl) (fun _ _ _ h => h) hS (by rfl) (by intro w' hSw; obtain ⟨y0, y1, y2, y3, y4⟩ := hSw; go_simp <;> with_reducible rfl) ?_
  simp only [Act.put, List.setIfInBounds_toArray, List.set_cons_zero, List.set_cons_succ]
  refine wpAnyL_take (i := 8) 50 (v := .int .i64 (j : Int)) rfl rfl (by kernel_rfl) (by kernel_rfl) (by kernel_rfl) (by kernel_rfl) (by kernel_rfl) (by kernel_rfl) (fun _ _ _ h => h) hS (by rfl) (by intro w' hSw; obtain ⟨y0, y1, y2, y3, y4⟩ := hSw; go_simp <;> with_reducible rfl) ?_
  simp only [Act.put, List.setIfInBounds_toArray, List.set_cons_zero, List.set_cons_succ]
  refine wpAnyL_take (i := 9) 51 (v := .pointer (some ⟨kg, (j * 2), none⟩)) rfl rfl (by kernel_rfl) (by kernel_rfl) (by kernel_rfl) (by kernel_rfl) (by kernel_rfl) (by kernel_rfl) (fun _ _ _ h => h) hS (by rfl) (by intro w' hSw; obtain ⟨y0, y1, y2, y3, y4⟩ := hSw; go_simp <;> with_reducible rfl) ?_
  simp only [Act.put, List.setIfInBounds_toArray, List.set_cons_zero, List.set_cons_succ]
  refine wpAnyL_take (i := 10) 52 (v := .agg #[.int .i64 ev, .string es]) rfl rfl (by kernel_rfl) (by kernel_rfl) (by kernel_rfl) (by kernel_rfl) (by kernel_rfl) (by kernel_rfl) (fun _ _ _ h => h) hS (by rfl) (by intro w' hSw; obtain ⟨y0, y1, y2, y3, y4⟩ := hSw; go_simp <;> with_reducible rfl) ?_
  simp only [Act.put, List.setIfInBounds_toArray, List.set_cons_zero, List.set_cons_succ]
  refine wpAnyL_one (i := 11) (by kernel_rfl) rfl (fun Ka hKa => ?_)
  go_simp
  have ba := vone_new We (.cells #[.int .i64 0, .string { data := #[] }] 106)
  have hea := heap_alloc_new We (.cells #[.int .i64 0, .string { data := #[] }] 106)
  obtain ⟨e, he⟩ : ∃ e, We.heap.size = e := ⟨_, rfl⟩
  rw [he] at hea ⊢
  generalize hWa : We.alloc (.cells #[.int .i64 0, .string { data := #[] }] 106) = Wa at ba hea ⊢
  refine hKa.out _ _ (fun _ => ⟨(ba.cell (p := ⟨b, 5, none⟩) (vlt_cell y5)).trans y5, (ba.cell (p := ⟨b, 2, none⟩) (vlt_cell y2)).trans y2, (ba.cell (p := ⟨np, 10, none⟩) (vlt_cell y10)).trans y10, (ba.cell (p := ⟨kg, j * 2, none⟩) (vlt_cell k0)).trans k0, (ba.cell (p := ⟨kg, j * 2 + 1, none⟩) (vlt_cell k1)).trans k1⟩) ?_
  have HBa : Hid (Below We.heap.size We Wa) := ba
  have HEa : Hid _ := hea
  have HEe : Hid (We.heap.size = e) := he
  clear hKa Ka hWa ba hea he hS y5 y2 y10 k0 k1
  try simp only [Act.put, List.setIfInBounds_toArray, List.set_cons_zero, List.set_cons_succ]
  refine wpAnyL_one (i := 12) (by kernel_rfl) rfl (fun Ka hKa => ?_)
  refine wp_store_row 106 _ _ rfl e #[.int .i64 ev, .string es] rfl rfl 106 #[.int .i64 0, .string { data := #[] }] HEa.out size_ent rfl (by simp [Value.oneCell']) ?_
  refine hKa.out _ _ (fun hh => absurd hh (Bool.eq_false_iff.1 (by kernel_rfl))) ?_
  clear hKa Ka
  try simp only [Act.put, List.setIfInBounds_toArray, List.set_cons_zero, List.set_cons_succ]
  refine wpAnyL_done (by kernel_rfl) ?_ _
  generalize hWb : Wa.setRow e _ = Wb
  have hEb : Wb.heap[e]? = some (.cells #[.int .i64 ev, .string es] 106 (0, 0)) := by rw [← hWb]; exact setRow_heap _ _ _ _ _ _ HEa.out
  have fb : Fr We Wb (fun _ => False) := by
    rw [← hWb]
    exact (Fr.ofBelow HBa.out _).trans (vfr_setRow _ _ _) (fun i hi x => by have := HEe.out; omega)
  have bb := fb.below (Nat.le_refl _) (fun _ h => h.elim)
  have HBb : Hid (Below w.heap.size w Wb) := HBe.out.trans (bb.mono HBe.out.size)
  have hNb : Wb.heap[np]? = some (.cells #[.pointer (some ⟨dp, 0, none⟩), .pointer (some ⟨lq, 0, none⟩), .pointer (some ⟨vp, 0, none⟩), .int .i64 A.vw, .int .i64 A.nm, .int .i64 A.bi, .int .i64 A.bv, .string A.base, .slice (some ⟨kg, 0, none⟩) kn kc, .int .i64 A.cm, .int .i64 at_, .bool false] 87 (0, 0)) := (bb.block np (vlt_blk HNe.out)).trans HNe.out
  have HZb : Hid (Wb.heap[q]? = some (.cells #[.int .i64 0, .int .i64 0, .string (str []), .bool false] 73 (0, 0))) := (bb.block q (vlt_blk HZe.out)).trans HZe.out
  have HNb : Hid (Wb.heap[np]? = some (.cells #[.pointer (some ⟨dp, 0, none⟩), .pointer (some ⟨lq, 0, none⟩), .pointer (some ⟨vp, 0, none⟩), .int .i64 A.vw, .int .i64 A.nm, .int .i64 A.bi, .int .i64 A.bv, .string A.base, .slice (some ⟨kg, 0, none⟩) kn kc, .int .i64 A.cm, .int .i64 at_, .bool false] 87 (0, 0))) := hNb
  have HEb : Hid (Wb.heap[e]? = some (.cells #[.int .i64 ev, .string es] 106 (0, 0))) := hEb
  have c10 := (robox hNb).2.2.2.2.2.2.2.2.1
  have f10 := vfree hNb 10
  clear hWb fb bb hNb hEb
  go_upto_region 11 with (fail)
  generalize hWc : World.setCell _ _ _ = Wc
  have hNc : Wc.heap[np]? = some (.cells #[.pointer (some ⟨dp, 0, none⟩), .pointer (some ⟨lq, 0, none⟩), .pointer (some ⟨vp, 0, none⟩), .int .i64 A.vw, .int .i64 A.nm, .int .i64 A.bi, .int .i64 A.bv, .string A.base, .slice (some ⟨kg, 0, none⟩) kn kc, .int .i64 A.cm, .int .i64 (at_ + 1), .bool false] 87 (0, 0)) := by rw [← hWc]; exact vblk_set (i := 10) _ HNb.out
  have fc : Fr Wb Wc (fun k => k = np) := by rw [← hWc]; exact Fr.setCell (S := fun k => k = np) _ ⟨np, 10, none⟩ _ rfl
  have hen : e ≠ np := fun x => by have h7 := HEb.out; rw [x, HNb.out] at h7; cases h7
  have hqn : q ≠ np := fun x => by have h7 := HZb.out; rw [x, HNb.out] at h7; cases h7
  have hEc : Wc.heap[e]? = some (.cells #[.int .i64 ev, .string es] 106 (0, 0)) := (fc.block e (vlt_blk HEb.out) hen).trans HEb.out
  have HZc : Hid (Wc.heap[q]? = some (.cells #[.int .i64 0, .int .i64 0, .string (str []), .bool false] 73 (0, 0))) := (fc.block q (vlt_blk HZb.out) hqn).trans HZb.out
  obtain ⟨Wf, hWf⟩ : ∃ Wf, Wc.drew = Wf := ⟨_, rfl⟩
  have bf : Below Wc.heap.size Wc Wf := by rw [← hWf]; exact Below.drew (Below.refl _ _)
  have hNf : Wf.heap[np]? = some (.cells #[.pointer (some ⟨dp, 0, none⟩), .pointer (some ⟨lq, 0, none⟩), .pointer (some ⟨vp, 0, none⟩), .int .i64 A.vw, .int .i64 A.nm, .int .i64 A.bi, .int .i64 A.bv, .string A.base, .slice (some ⟨kg, 0, none⟩) kn kc, .int .i64 A.cm, .int .i64 (at_ + 1), .bool false] 87 (0, 0)) := (bf.block np (vlt_blk hNc)).trans hNc
  have hEf : Wf.heap[e]? = some (.cells #[.int .i64 ev, .string es] 106 (0, 0)) := (bf.block e (vlt_blk hEc)).trans hEc
  have HZf : Hid (Wf.heap[q]? = some (.cells #[.int .i64 0, .int .i64 0, .string (str []), .bool false] 73 (0, 0))) := (bf.block q (vlt_blk HZc.out)).trans HZc.out
  have HNf : Hid (Wf.heap[np]? = some (.cells #[.pointer (some ⟨dp, 0, none⟩), .pointer (some ⟨lq, 0, none⟩), .pointer (some ⟨vp, 0, none⟩), .int .i64 A.vw, .int .i64 A.nm, .int .i64 A.bi, .int .i64 A.bv, .string A.base, .slice (some ⟨kg, 0, none⟩) kn kc, .int .i64 A.cm, .int .i64 (at_ + 1), .bool false] 87 (0, 0))) := hNf
  have z10 := (robox hNf).2.2.2.2.2.2.2.2.1
  have z0 : Wf.cell? ⟨e, 0, none⟩ = some (.int .i64 ev) := vcell_blk hEf
  have z1 : Wf.cell? ⟨e, 1, none⟩ = some (.string es) := vcell_blk hEf
  have HFf : Hid (Fr w Wf (fun k => k = np)) := by
    have g1 := Fr.ofBelow HBb.out (fun k => k = np)
    have g2 := g1.trans fc (fun _ _ h => h)
    exact g2.trans (Fr.ofBelow bf (fun _ => False)) (fun _ _ h => h.elim)
  refine wp_calmV ?_
  refine wp_region_L [9] (fun w' : World => w'.cell? ⟨np, 10, none⟩ = some (.int .i64 (at_ + 1)) ∧ w'.cell? ⟨e, 0, none⟩ = some (.int .i64 ev) ∧ w'.cell? ⟨e, 1, none⟩ = some (.string es)) (by kernel_rfl) ?_
  rw [hWf]
  have hS : (fun w' : World => w'.cell? ⟨np, 10, none⟩ = some (.int .i64 (at_ + 1)) ∧ w'.cell? ⟨e, 0, none⟩ = some (.int .i64 ev) ∧ w'.cell? ⟨e, 1, none⟩ = some (.string es)) Wf := ⟨z10, z0, z1⟩
  clear hWf hWc bf hNc hEc fc hNf hEf c10 f10
  refine wpAnyL_take (i := 0) 60 (v := .pointer (some ⟨np, 0, none⟩)) rfl rfl (by kernel_rfl) (by kernel_rfl) (by kernel_rfl) (by kernel_rfl) (by kernel_rfl) (by kernel_rfl) (fun _ _ _ h => h) hS (by rfl) (by intro w' hSw; obtain ⟨y0, y1, y2⟩ := hSw; go_simp <;> with_reducible rfl) ?_
  simp only [Act.put, List.setIfInBounds_toArray, List.set_cons_zero, List.set_cons_succ]
  refine wpAnyL_take (i := 1) 61 (v := .pointer (some ⟨np, 0, none⟩)) rfl rfl (by kernel_rfl) (by kernel_rfl) (by kernel_rfl) (by kernel_rfl) (by kernel_rfl) (by kernel_rfl) (fun _ _ _ h => h) hS (by rfl) (by intro w' hSw; obtain ⟨y0, y1, y2⟩ := hSw; go_simp <;> with_reducible rfl) ?_
  simp only [Act.put, List.setIfInBounds_toArray, List.set_cons_zero, List.set_cons_succ]
  refine wpAnyL_take (i := 2) 62 (v := .pointer (some ⟨np, 10, none⟩)) rfl rfl (by kernel_rfl) (by kernel_rfl) (by kernel_rfl) (by kernel_rfl) (by kernel_rfl) (by kernel_rfl) (fun _ _ _ h => h) hS (by rfl) (by intro w' hSw; obtain ⟨y0, y1, y2⟩ := hSw; go_simp <;> with_reducible rfl) ?_
  simp only [Act.put, List.setIfInBounds_toArray, List.set_cons_zero, List.set_cons_succ]
  refine wpAnyL_take (i := 3) 63 (v := .int .i64 (at_ + 1)) rfl rfl (by kernel_rfl) (by kernel_rfl) (by kernel_rfl) (by kernel_rfl) (by kernel_rfl) (by kernel_rfl) (fun _ _ _ h => h) hS (by rfl) (by intro w' hSw; obtain ⟨y0, y1, y2⟩ := hSw; go_simp <;> with_reducible rfl) ?_
  simp only [Act.put, List.setIfInBounds_toArray, List.set_cons_zero, List.set_cons_succ]
  refine wpAnyL_take (i := 4) 64 (v := .pointer (some ⟨e, 0, none⟩)) rfl rfl (by kernel_rfl) (by kernel_rfl) (by kernel_rfl) (by kernel_rfl) (by kernel_rfl) (by kernel_rfl) (fun _ _ _ h => h) hS (by rfl) (by intro w' hSw; obtain ⟨y0, y1, y2⟩ := hSw; go_simp <;> with_reducible rfl) ?_
  simp only [Act.put, List.setIfInBounds_toArray, List.set_cons_zero, List.set_cons_succ]
  refine wpAnyL_take (i := 5) 65 (v := .int .i64 ev) rfl rfl (by kernel_rfl) (by kernel_rfl) (by kernel_rfl) (by kernel_rfl) (by kernel_rfl) (by kernel_rfl) (fun _ _ _ h => h) hS (by rfl) (by intro w' hSw; obtain ⟨y0, y1, y2⟩ := hSw; go_simp <;> with_reducible rfl) ?_
  simp only [Act.put, List.setIfInBounds_toArray, List.set_cons_zero, List.set_cons_succ]
  refine wpAnyL_take (i := 6) 66 (v := .pointer (some ⟨e, 1, none⟩)) rfl rfl (by kernel_rfl) (by kernel_rfl) (by kernel_rfl) (by kernel_rfl) (by kernel_rfl) (by kernel_rfl) (fun _ _ _ h => h) hS (by rfl) (by intro w' hSw; obtain ⟨y0, y1, y2⟩ := hSw; go_simp <;> with_reducible rfl) ?_
  simp only [Act.put, List.setIfInBounds_toArray, List.set_cons_zero, List.set_cons_succ]
  refine wpAnyL_take (i := 7) 67 (v := .string es) rfl rfl (by kernel_rfl) (by kernel_rfl) (by kernel_rfl) (by kernel_rfl) (by kernel_rfl) (by kernel_rfl) (fun _ _ _ h => h) hS (by rfl) (by intro w' hSw; obtain ⟨y0, y1, y2⟩ := hSw; go_simp <;> with_reducible rfl) ?_
  simp only [Act.put, List.setIfInBounds_toArray, List.set_cons_zero, List.set_cons_succ]
  refine wpAnyL_take (i := 8) 68 (v := .agg #[.int .i64 (at_ + 1), .int .i64 ev, .string es, .bool false]) rfl rfl (by kernel_rfl) (by kernel_rfl) (by kernel_rfl) (by kernel_rfl) (by kernel_rfl) (by kernel_rfl) (fun _ _ _ h => h) hS (by rfl) (by intro w' hSw; obtain ⟨y0, y1, y2⟩ := hSw; go_simp <;> with_reducible rfl) ?_
  simp only [Act.put, List.setIfInBounds_toArray, List.set_cons_zero, List.set_cons_succ]
  refine wpAnyL_one (i := 9) (by kernel_rfl) rfl (fun Ka hKa => ?_)
  refine wp_store_row 73 _ _ rfl q #[.int .i64 (at_ + 1), .int .i64 ev, .string es, .bool false] rfl rfl 73 #[.int .i64 0, .int .i64 0, .string (str []), .bool false] HZf.out size_given rfl (by simp [Value.oneCell']) ?_
  refine hKa.out _ _ (fun hh => absurd hh (Bool.eq_false_iff.1 (by kernel_rfl))) ?_
  clear hKa Ka
  try simp only [Act.put, List.setIfInBounds_toArray, List.set_cons_zero, List.set_cons_succ]
  refine wpAnyL_one (i := 10) (by kernel_rfl) rfl (fun Ka hKa => ?_)
  go_simp
  refine hKa.out _ _ (fun hh => absurd hh (Bool.eq_false_iff.1 (by kernel_rfl))) ?_
  clear hKa Ka
  try simp only [Act.put, List.setIfInBounds_toArray, List.set_cons_zero, List.set_cons_succ]
  refine wpAnyL_done (by kernel_rfl) ?_ _
  clear hS z10 z0 z1
  go_wp2
  refine bodyPost_ret (v := .tuple #[.agg #[.int .i64 (at_ + 1), .int .i64 ev, .string es, .bool false], .bool true]) (res_ctV Tryz.results31 _ _ q 73 _ (0, 0) _ rfl (setRow_heap _ _ _ _ _ _ HZf.out) Tryz.underlying73 rfl size_given) rfl ?_
  have fs := vfr_setRow Wf q #[.int .i64 (at_ + 1), .int .i64 ev, .string es, .bool false]
  have hNz : (Wf.setRow q #[.int .i64 (at_ + 1), .int .i64 ev, .string es, .bool false]).heap[np]? = some (.cells (roC dp lq vp (hdOf A) (.slice (some ⟨kg, 0, none⟩) kn kc) A.cm (at_ + 1) false) 87 (0, 0)) := (fs.block np (vlt_blk HNf.out) (fun x => hqn x.symm)).trans HNf.out
  have ffin : Fr w (Wf.setRow q #[.int .i64 (at_ + 1), .int .i64 ev, .string es, .bool false]) (fun k => k = np) := HFf.out.trans fs (fun i hi x => by have := HQ.out; omega)
  exact ⟨rfl, HR.out.own ffin hNz, ffin⟩
end Go.Proofs.YtnhjflebaeokeaaGreat
end
