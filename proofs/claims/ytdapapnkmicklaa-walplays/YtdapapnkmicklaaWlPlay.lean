/- What WalPlays holds behind each act: the log, its disk, the law's own list; what each call makes of that. -/
import Derived.Test.YtdapapnkmicklaaWlGen
namespace Go.Proofs.Ytdapapnkmicklaa
open Go.RowKit Go.Maps
attribute [local go_sem] Oper.semAt_some
abbrev MW : Nat := 281474976710656
/-- The log and its disk, behind k acts. -/
structure PL (w : World) (n0 k : Nat) (wx : World) (q : Nat) (rv : Value) (snap : Bs) (R : List Bs) (A : Dk) : Prop where
  lg : Lg wx n0 q n0 snap rv R
  dk : DkAt wx n0 n0 A
  cl : Cl A MW (2 * k + 2)
  file : getF log_ A.sure = some (frs (snap :: R))
  len : R.length ≤ 6 * k
  recs : (frs R).length ≤ 1284 * k
  each : ∀ x ∈ R, x.length ≤ 200
  hs : snap.length ≤ 140737488351232
  bel : Below n0 w wx
  low : n0 ≤ wx.heap.size
/-- .. and the law's own list. -/
structure PA2 (n0 : Nat) (wx : World) (rv av : Value) (R : List Bs) : Prop where
  all : TxO wx n0 av R
  apart : ∀ j, rv.ownBlock = some j → av.ownBlock ≠ some j
theorem TxO.lt {w : World} {B : Nat} {v : Value} {R : List Bs} (h : TxO w B v R) {j : Nat} (hj : v.ownBlock = some j) : j < w.heap.size := by
  obtain ⟨_, c, f, hb⟩ := h.tag hj
  exact lt_blk hb
section
variable {w wx wy : World} {n0 k q : Nat} {rv av : Value} {snap : Bs} {R : List Bs} {A : Dk}
theorem PL.new (h : PL w n0 k wx q rv snap R A) (hb : Below wx.heap.size wx wy) : PL w n0 k wy q rv snap R A :=
  ⟨h.lg.new hb, h.dk.new hb, h.cl, h.file, h.len, h.recs, h.each, h.hs, h.bel.trans (hb.mono h.low), Nat.le_trans h.low hb.size⟩
theorem PL.more (h : PL w n0 k wx q rv snap R A) : PL w n0 (k + 1) wx q rv snap R A :=
  ⟨h.lg, h.dk, h.cl.mono (by omega), h.file, by have := h.len; omega, by have := h.recs; omega, h.each, h.hs, h.bel, h.low⟩
theorem PA2.new (h : PA2 n0 wx rv av R) (hb : Below wx.heap.size wx wy) : PA2 n0 wy rv av R := ⟨h.all.new hb, h.apart⟩
theorem pl_fit (hk : k ≤ 31) (hs : snap.length ≤ 140737488351232) (hr : (frs R).length ≤ 1284 * k) : (frs (snap :: R)).length ≤ MW := by
  rw [frs_cons, List.length_append]
  have := frameB_le snap (by omega)
  show _ ≤ 281474976710656
  omega
theorem p_open (h : PL w n0 k wx q rv snap R A) (ha : PA2 n0 wx rv av R) (hk : k ≤ 31) : Calls Try.prog 12 #[.pointer (some ⟨n0, 0, none⟩)] wx fun r w' => ∃ q' rv', r = .returned (.tuple #[.pointer (some ⟨q', 0, none⟩), .int .i64 0, .int .i64 0]) ∧ PL w n0 k w' q' rv' snap R A ∧ PA2 n0 w' rv' av R := by
  have hU := unfV_all (snap :: R) (fun x hx => by
    rcases List.mem_cons.1 hx with rfl | hx
    · have := h.hs; omega
    · have := h.each x hx; omega)
  refine (open_again h.dk h.low h.cl (by decide) (by omega) h.file hU (by have := h.len; omega)).mono ?_
  rintro r w' ⟨q', rv', rfl, _, h2, h3, h4, h5⟩
  refine ⟨q', rv', rfl, ⟨h2, h4, h.cl, h.file, h.len, h.recs, h.each, h.hs, h.bel.trans (FrD.below h5 h.low), Nat.le_trans h.low h5.size⟩, ⟨ha.all.frD h5, fun j hj e => ?_⟩⟩
  have h6 := h3 j hj
  have h7 := ha.all.lt e
  omega
/-- The log and its disk, behind a fall. -/
structure PX (w : World) (n0 k : Nat) (wx : World) (snap : Bs) (R : List Bs) (A : Dk) (keep tn : Int) : Prop where
  dk : DkAt wx n0 n0 (A.fail keep tn)
  bel : Below n0 w wx
  low : n0 ≤ wx.heap.size
theorem p_crash (h : PL w n0 k wx q rv snap R A) (ha : PA2 n0 wx rv av R) (hk : k ≤ 31) (keep tn : Int) : Calls Try.prog 16 #[.pointer (some ⟨n0, 0, none⟩), .int .i64 keep, .int .i64 tn] wx fun r w' => r = .returned (.tuple #[]) ∧ PX w n0 k w' snap R A keep tn ∧ Lg w' n0 q n0 snap rv R ∧ PA2 n0 w' rv av R := by
  refine (cl_crash h.dk h.low h.cl (by decide) (by omega) keep tn).mono ?_
  rintro r w' ⟨rfl, h1, h2⟩
  exact ⟨rfl, ⟨h1, h.bel.trans (FrD.below h2 h.low), Nat.le_trans h.low h2.size⟩, h.lg.frD h2, ⟨ha.all.frD h2, ha.apart⟩⟩
theorem p_up {w1 : World} {keep tn : Int} (h : PL w n0 k w1 q rv snap R A) (hx : PX w n0 k wx snap R A keep tn) (hl : Lg wx n0 q n0 snap rv R) (ha : PA2 n0 wx rv av R) : Calls Try.prog 17 #[.pointer (some ⟨n0, 0, none⟩)] wx fun r w' => r = .returned (.bool true) ∧ PL w n0 k w' q rv snap R A ∧ PA2 n0 w' rv av R := by
  refine (cl_up hx.dk h.cl).mono ?_
  rintro r w' ⟨rfl, h1, h2⟩
  exact ⟨rfl, ⟨hl.frD h2, h1, h.cl, h.file, h.len, h.recs, h.each, h.hs, hx.bel.trans (FrD.below h2 hx.low), Nat.le_trans hx.low h2.size⟩, ⟨ha.all.frD h2, ha.apart⟩⟩
theorem p_reset {s2 : Bs} {v : Value} {L : List Bs} (h : PL w n0 k wx q rv snap R A) (hk : k ≤ 30) (hv : TxO wx 0 v (cutT L)) (hs : s2.length ≤ 140737488351232) : Calls Try.prog 14 #[.pointer (some ⟨q, 0, none⟩), .string (str s2), v] wx fun r w' => r = .returned (.int .i64 0) ∧ ∃ rv' A', PL w n0 (k + 1) w' q rv' s2 (cutT L) A' ∧ Fr wx w' (fun k => (n0 ≤ k ∧ DkB wx k) ∨ k = q) := by
  have hf := cutT_frs L
  have hF : (frs (s2 :: cutT L)).length ≤ MW := pl_fit (k := 1) (by decide) hs (by omega)
  refine (reset_any h.lg h.dk h.low h.cl (by decide) (by omega) hv (by omega) (by omega) hF).mono ?_
  rintro r w' ⟨rfl, h1, ⟨rv', h2, h3⟩, h4⟩
  obtain ⟨c1, c2⟩ := h.cl.anew hF
  have hb : Below n0 wx w' := h4.below h.low (fun j hj => by
    rcases hj with hj | hj
    · exact hj.1
    · rw [hj]; exact h.lg.hq)
  have := cutT_len L
  exact ⟨rfl, rv', _, ⟨h2, h1, c1.mono (by omega), c2, by omega, by omega, cutT_each L, hs, h.bel.trans hb, Nat.le_trans h.low h4.size⟩, h4⟩
theorem p_add {v : Value} {L : List Bs} (h : PL w n0 k wx q rv snap R A) (ha : PA2 n0 wx rv av R) (hk : k ≤ 30) (hv : TxO wx 0 v (cutT L)) : Calls Try.prog 18 #[.pointer (some ⟨q, 0, none⟩), v] wx fun r w' => r = .returned (.int .i64 0) ∧ ∃ rv' A', PL w n0 (k + 1) w' q rv' snap (R ++ cutT L) A' ∧ TxO w' n0 av R ∧ (∀ j, rv'.ownBlock = some j → av.ownBlock ≠ some j) ∧ Fr wx w' (fun k => (n0 ≤ k ∧ DkB wx k) ∨ k = q ∨ rv.ownBlock = some k) := by
  have hf := cutT_frs L
  have hl := cutT_len L
  have hr := h.recs
  have hln := h.len
  have hF1 : (frs R ++ frs (cutT L)).length ≤ 1284 * (k + 1) := by rw [List.length_append]; omega
  have hF : (frs (snap :: R) ++ frs (cutT L)).length ≤ MW := by
    rw [← frs_append]
    exact pl_fit (k := k + 1) (R := R ++ cutT L) (by omega) h.hs (by rw [frs_append]; exact hF1)
  refine (add_any h.lg h.dk h.low h.cl (by decide) (by omega) hv (by omega) (by omega) (by show _ ≤ 281474976710656; omega)).mono ?_
  rintro r w' ⟨rfl, h1, ⟨rv', h2, h3⟩, h4⟩
  obtain ⟨c1, c2⟩ := h.cl.more h.file hF
  rw [← frs_append] at c2
  have hb : Below n0 wx w' := h4.below h.low (fun j hj => by
    rcases hj with hj | hj | hj
    · exact hj.1
    · rw [hj]; exact h.lg.hq
    · exact (h.lg.row.tag hj).1)
  have hap : TxO w' n0 av R := ha.all.kept h4 (fun j hj s => by
    obtain ⟨_, c, f, hb'⟩ := ha.all.tag hj
    rcases s with s | s | s
    · rcases s.2 with ⟨es, c', hm⟩ | ⟨c', t, f', hm, ht⟩
      · rw [hb'] at hm; cases hm
      · rw [hb'] at hm
        cases hm
        rcases ht with ht | ht <;> exact absurd ht (by decide)
    · rw [s, h.lg.blk] at hb'
      cases hb'
    · exact ha.apart j s hj)
  refine ⟨rfl, rv', _, ⟨h2, h1, c1.mono (by omega), c2, by rw [List.length_append]; omega, by rw [frs_append]; exact hF1, ?_, h.hs, h.bel.trans hb, Nat.le_trans h.low h4.size⟩, hap, ?_, h4⟩
  · intro x hx
    rcases List.mem_append.1 hx with hx | hx
    · exact h.each x hx
    · exact cutT_each L x hx
  · intro j hj e
    rcases h3 j hj with h5 | h5
    · exact ha.apart j h5 e
    · have := ha.all.lt e
      omega
/-- The law's own list grows. -/
theorem p_app {v' : Value} {T : List Bs} (h : PL w n0 k wx q rv snap (R ++ T) A) (ha : TxO wx n0 av R) (hap : ∀ j, rv.ownBlock = some j → av.ownBlock ≠ some j) (ho : TxO wy n0 v' (R ++ T)) (f : Fr wx wy (fun k => av.ownBlock = some k)) (hb : ∀ j, v'.ownBlock = some j → av.ownBlock = some j ∨ wx.heap.size ≤ j) : PL w n0 k wy q rv snap (R ++ T) A ∧ PA2 n0 wy rv v' (R ++ T) := by
  have hbel : Below n0 wx wy := ha.below h.low f
  refine ⟨⟨⟨?_, ?_, h.lg.hq⟩, ?_, h.cl, h.file, h.len, h.recs, h.each, h.hs, h.bel.trans hbel, Nat.le_trans h.low f.size⟩, ⟨ho, fun j hj e => ?_⟩⟩
  · refine (f.block q (lt_blk h.lg.blk) (fun e => ?_)).trans h.lg.blk
    obtain ⟨_, c, g, hb'⟩ := ha.tag e
    rw [h.lg.blk] at hb'
    cases hb'
  · exact h.lg.row.kept f (fun j hj s => hap j hj s)
  · refine dk_keep h.dk f (fun j hj => ?_)
    obtain ⟨_, c, g, hb'⟩ := ha.tag hj
    exact ⟨_, _, _, hb', by decide, by decide⟩
  · rcases hb j e with h5 | h5
    · exact hap j hj h5
    · have := h.lg.row.lt hj
      omega
end
end Go.Proofs.Ytdapapnkmicklaa
