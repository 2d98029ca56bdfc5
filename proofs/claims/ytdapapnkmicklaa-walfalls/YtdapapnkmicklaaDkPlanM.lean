import Derived.Test.YtdapapnkmicklaaWlGen
import Derived.Shelf.SlicesE.Clone
import Derived.Shelf.SlGeneric
import Derived.Test.YtdapapnkmicklaaProg
import Derived.Test.YtdapapnkmicklaaDkHit2
section
/- What WalPlays holds behind each act: the log, its disk, the law's own list; what each call makes of that. -/
namespace Go.Proofs.Ytdapapnkmicklaa
open Go.RowKit Go.Maps
attribute [local go_sem] Oper.semAt_some
abbrev MW : Nat := 281474976710656
/-- The log and its disk, behind k acts. -/
structure PL (w : World) (n0 k : Nat) (wx : World) (q : Nat) (rv : Value) (snap : Bs) (R : List Bs) (A : Dk) : Prop where
  lg : Lg wx n0 q n0 snap rv R
  dk : DkAt wx n0 n0 A
  cl : Cl A MW (2 * k + 2)
  file : getF log_ A.sure = some (frs (snap :: R))
  len : R.length ≤ 6 * k
  recs : (frs R).length ≤ 1284 * k
  each : ∀ x ∈ R, x.length ≤ 200
  hs : snap.length ≤ 140737488351232
  bel : Below n0 w wx
  low : n0 ≤ wx.heap.size
/-- .. and the law's own list. -/
structure PA2 (n0 : Nat) (wx : World) (rv av : Value) (R : List Bs) : Prop where
  all : TxO wx n0 av R
  apart : ∀ j, rv.ownBlock = some j → av.ownBlock ≠ some j
theorem TxO.lt {w : World} {B : Nat} {v : Value} {R : List Bs} (h : TxO w B v R) {j : Nat} (hj : v.ownBlock = some j) : j < w.heap.size := by
  obtain ⟨_, c, f, hb⟩ := h.tag hj
  exact lt_blk hb
section
variable {w wx wy : World} {n0 k q : Nat} {rv av : Value} {snap : Bs} {R : List Bs} {A : Dk}
theorem PL.new (h : PL w n0 k wx q rv snap R A) (hb : Below wx.heap.size wx wy) : PL w n0 k wy q rv snap R A :=
  ⟨h.lg.new hb, h.dk.new hb, h.cl, h.file, h.len, h.recs, h.each, h.hs, h.bel.trans (hb.mono h.low), Nat.le_trans h.low hb.size⟩
theorem PL.more (h : PL w n0 k wx q rv snap R A) : PL w n0 (k + 1) wx q rv snap R A :=
  ⟨h.lg, h.dk, h.cl.mono (by omega), h.file, by have := h.len; omega, by have := h.recs; omega, h.each, h.hs, h.bel, h.low⟩
theorem PA2.new (h : PA2 n0 wx rv av R) (hb : Below wx.heap.size wx wy) : PA2 n0 wy rv av R := ⟨h.all.new hb, h.apart⟩
theorem pl_fit (hk : k ≤ 31) (hs : snap.length ≤ 140737488351232) (hr : (frs R).length ≤ 1284 * k) : (frs (snap :: R)).length ≤ MW := by
  rw [frs_cons, List.length_append]
  have := frameB_le snap (by omega)
  show _ ≤ 281474976710656
  omega
theorem p_open (h : PL w n0 k wx q rv snap R A) (ha : PA2 n0 wx rv av R) (hk : k ≤ 31) : Calls Try.prog 12 #[.pointer (some ⟨n0, 0, none⟩)] wx fun r w' => ∃ q' rv', r = .returned (.tuple #[.pointer (some ⟨q', 0, none⟩), .int .i64 0, .int .i64 0]) ∧ PL w n0 k w' q' rv' snap R A ∧ PA2 n0 w' rv' av R := by
  have hU := unfV_all (snap :: R) (fun x hx => by
    rcases List.mem_cons.1 hx with rfl | hx
    · have := h.hs; omega
    · have := h.each x hx; omega)
  refine (open_again h.dk h.low h.cl (by decide) (by omega) h.file hU (by have := h.len; omega)).mono ?_
  rintro r w' ⟨q', rv', rfl, _, h2, h3, h4, h5⟩
  refine ⟨q', rv', rfl, ⟨h2, h4, h.cl, h.file, h.len, h.recs, h.each, h.hs, h.bel.trans (FrD.below h5 h.low), Nat.le_trans h.low h5.size⟩, ⟨ha.all.frD h5, fun j hj e => ?_⟩⟩
  have h6 := h3 j hj
  have h7 := ha.all.lt e
  omega
/-- The log and its disk, behind a fall. -/
structure PX (w : World) (n0 k : Nat) (wx : World) (snap : Bs) (R : List Bs) (A : Dk) (keep tn : Int) : Prop where
  dk : DkAt wx n0 n0 (A.fail keep tn)
  bel : Below n0 w wx
  low : n0 ≤ wx.heap.size
theorem p_crash (h : PL w n0 k wx q rv snap R A) (ha : PA2 n0 wx rv av R) (hk : k ≤ 31) (keep tn : Int) : Calls Try.prog 16 #[.pointer (some ⟨n0, 0, none⟩), .int .i64 keep, .int .i64 tn] wx fun r w' => r = .returned (.tuple #[]) ∧ PX w n0 k w' snap R A keep tn ∧ Lg w' n0 q n0 snap rv R ∧ PA2 n0 w' rv av R := by
  refine (cl_crash h.dk h.low h.cl (by decide) (by omega) keep tn).mono ?_
  rintro r w' ⟨rfl, h1, h2⟩
  exact ⟨rfl, ⟨h1, h.bel.trans (FrD.below h2 h.low), Nat.le_trans h.low h2.size⟩, h.lg.frD h2, ⟨ha.all.frD h2, ha.apart⟩⟩
theorem p_up {w1 : World} {keep tn : Int} (h : PL w n0 k w1 q rv snap R A) (hx : PX w n0 k wx snap R A keep tn) (hl : Lg wx n0 q n0 snap rv R) (ha : PA2 n0 wx rv av R) : Calls Try.prog 17 #[.pointer (some ⟨n0, 0, none⟩)] wx fun r w' => r = .returned (.bool true) ∧ PL w n0 k w' q rv snap R A ∧ PA2 n0 w' rv av R := by
  refine (cl_up hx.dk h.cl).mono ?_
  rintro r w' ⟨rfl, h1, h2⟩
  exact ⟨rfl, ⟨hl.frD h2, h1, h.cl, h.file, h.len, h.recs, h.each, h.hs, hx.bel.trans (FrD.below h2 hx.low), Nat.le_trans hx.low h2.size⟩, ⟨ha.all.frD h2, ha.apart⟩⟩
theorem p_reset {s2 : Bs} {v : Value} {L : List Bs} (h : PL w n0 k wx q rv snap R A) (hk : k ≤ 30) (hv : TxO wx 0 v (cutT L)) (hs : s2.length ≤ 140737488351232) : Calls Try.prog 14 #[.pointer (some ⟨q, 0, none⟩), .string (str s2), v] wx fun r w' => r = .returned (.int .i64 0) ∧ ∃ rv' A', PL w n0 (k + 1) w' q rv' s2 (cutT L) A' ∧ Fr wx w' (fun k => (n0 ≤ k ∧ DkB wx k) ∨ k = q) := by
  have hf := cutT_frs L
  have hF : (frs (s2 :: cutT L)).length ≤ MW := pl_fit (k := 1) (by decide) hs (by omega)
  refine (reset_any h.lg h.dk h.low h.cl (by decide) (by omega) hv (by omega) (by omega) hF).mono ?_
  rintro r w' ⟨rfl, h1, ⟨rv', h2, h3⟩, h4⟩
  obtain ⟨c1, c2⟩ := h.cl.anew hF
  have hb : Below n0 wx w' := h4.below h.low (fun j hj => by
    rcases hj with hj | hj
    · exact hj.1
    · rw [hj]; exact h.lg.hq)
  have := cutT_len L
  exact ⟨rfl, rv', _, ⟨h2, h1, c1.mono (by omega), c2, by omega, by omega, cutT_each L, hs, h.bel.trans hb, Nat.le_trans h.low h4.size⟩, h4⟩
theorem p_add {v : Value} {L : List Bs} (h : PL w n0 k wx q rv snap R A) (ha : PA2 n0 wx rv av R) (hk : k ≤ 30) (hv : TxO wx 0 v (cutT L)) : Calls Try.prog 18 #[.pointer (some ⟨q, 0, none⟩), v] wx fun r w' => r = .returned (.int .i64 0) ∧ ∃ rv' A', PL w n0 (k + 1) w' q rv' snap (R ++ cutT L) A' ∧ TxO w' n0 av R ∧ (∀ j, rv'.ownBlock = some j → av.ownBlock ≠ some j) ∧ Fr wx w' (fun k => (n0 ≤ k ∧ DkB wx k) ∨ k = q ∨ rv.ownBlock = some k) := by
  have hf := cutT_frs L
  have hl := cutT_len L
  have hr := h.recs
  have hln := h.len
  have hF1 : (frs R ++ frs (cutT L)).length ≤ 1284 * (k + 1) := by rw [List.length_append]; omega
  have hF : (frs (snap :: R) ++ frs (cutT L)).length ≤ MW := by
    rw [← frs_append]
    exact pl_fit (k := k + 1) (R := R ++ cutT L) (by omega) h.hs (by rw [frs_append]; exact hF1)
  refine (add_any h.lg h.dk h.low h.cl (by decide) (by omega) hv (by omega) (by omega) (by show _ ≤ 281474976710656; omega)).mono ?_
  rintro r w' ⟨rfl, h1, ⟨rv', h2, h3⟩, h4⟩
  obtain ⟨c1, c2⟩ := h.cl.more h.file hF
  rw [← frs_append] at c2
  have hb : Below n0 wx w' := h4.below h.low (fun j hj => by
    rcases hj with hj | hj | hj
    · exact hj.1
    · rw [hj]; exact h.lg.hq
    · exact (h.lg.row.tag hj).1)
  have hap : TxO w' n0 av R := ha.all.kept h4 (fun j hj s => by
    obtain ⟨_, c, f, hb'⟩ := ha.all.tag hj
    rcases s with s | s | s
    · rcases s.2 with ⟨es, c', hm⟩ | ⟨c', t, f', hm, ht⟩
      · rw [hb'] at hm; cases hm
      · rw [hb'] at hm
        cases hm
        rcases ht with ht | ht <;> exact absurd ht (by decide)
    · rw [s, h.lg.blk] at hb'
      cases hb'
    · exact ha.apart j s hj)
  refine ⟨rfl, rv', _, ⟨h2, h1, c1.mono (by omega), c2, by rw [List.length_append]; omega, by rw [frs_append]; exact hF1, ?_, h.hs, h.bel.trans hb, Nat.le_trans h.low h4.size⟩, hap, ?_, h4⟩
  · intro x hx
    rcases List.mem_append.1 hx with hx | hx
    · exact h.each x hx
    · exact cutT_each L x hx
  · intro j hj e
    rcases h3 j hj with h5 | h5
    · exact ha.apart j h5 e
    · have := ha.all.lt e
      omega
/-- The law's own list grows. -/
theorem p_app {v' : Value} {T : List Bs} (h : PL w n0 k wx q rv snap (R ++ T) A) (ha : TxO wx n0 av R) (hap : ∀ j, rv.ownBlock = some j → av.ownBlock ≠ some j) (ho : TxO wy n0 v' (R ++ T)) (f : Fr wx wy (fun k => av.ownBlock = some k)) (hb : ∀ j, v'.ownBlock = some j → av.ownBlock = some j ∨ wx.heap.size ≤ j) : PL w n0 k wy q rv snap (R ++ T) A ∧ PA2 n0 wy rv v' (R ++ T) := by
  have hbel : Below n0 wx wy := ha.below h.low f
  refine ⟨⟨⟨?_, ?_, h.lg.hq⟩, ?_, h.cl, h.file, h.len, h.recs, h.each, h.hs, h.bel.trans hbel, Nat.le_trans h.low f.size⟩, ⟨ho, fun j hj e => ?_⟩⟩
  · refine (f.block q (lt_blk h.lg.blk) (fun e => ?_)).trans h.lg.blk
    obtain ⟨_, c, g, hb'⟩ := ha.tag e
    rw [h.lg.blk] at hb'
    cases hb'
  · exact h.lg.row.kept f (fun j hj s => hap j hj s)
  · refine dk_keep h.dk f (fun j hj => ?_)
    obtain ⟨_, c, g, hb'⟩ := ha.tag hj
    exact ⟨_, _, _, hb', by decide, by decide⟩
  · rcases hb j e with h5 | h5
    · exact hap j hj h5
    · have := h.lg.row.lt hj
      omega
end
end Go.Proofs.Ytdapapnkmicklaa
end

section
/- The library's functions at the disk's types: which of the program's functions are the library's. -/
namespace Go.Proofs.Ytdapapnkmicklaa
open Go.Shelf Go.Proofs
def layCloneF_ren : Go.Shelf.Ren := ⟨fun | 41 => 49 | n => n, fun | 22 => 35 | 23 => 34 | 4 => 4 | n => n, fun | n => n⟩
theorem layCloneF : Go.Proofs.SlLaysE0.n41 Try.prog layCloneF_ren := {
  mixed := by kernel_rfl,
  f41 := ⟨Try.f49.name, by decide, Try.func49.trans (congrArg some (by kernel_rfl))⟩,
  t4 := Try.underlying4,
  a4 := Try.isAgg4,
  z4 := Try.sizeOf4,
  v4 := Try.zeroValue4,
  t22 := Try.underlying35,
  a22 := Try.isAgg35,
  z22 := Try.sizeOf35,
  v22 := Try.zeroValue35}
end Go.Proofs.Ytdapapnkmicklaa
end

section
/- A plan of one fall that has not passed, and none: how it is laid. -/
namespace Go.Proofs.Ytdapapnkmicklaa
open Go.RowKit Go.Maps
attribute [local go_sem] Oper.semAt_some
theorem infoF : ∃ i, Try.prog.info? 34 = some i ∧ i.zero = some (.agg #[.int .i64 0, .int .i64 0, .int .i64 0]) ∧ i.size = 3 ∧ i.bytes = 24 := by
  cases h : Try.prog.info? 34 with
  | none =>
    have : (Try.prog.info? 34).isSome = true := by kernel_rfl
    rw [h] at this
    cases this
  | some i =>
    have h1 : (Try.prog.info? 34).map (·.zero) = some (some (.agg #[.int .i64 0, .int .i64 0, .int .i64 0])) := by kernel_rfl
    have h2 : (Try.prog.info? 34).map (·.size) = some 3 := by kernel_rfl
    have h3 : (Try.prog.info? 34).map (·.bytes) = some 24 := by kernel_rfl
    rw [h] at h1 h2 h3
    exact ⟨i, rfl, by simpa using h1, by simpa using h2, by simpa using h3⟩
section
variable {w : World} {f0 f1 f2 : Int}
theorem clone_f1 {b off c : Nat} (h0 : w.cell? ⟨b, off, none⟩ = some (.int .i64 f0)) (h1 : w.cell? ⟨b, off + 1, none⟩ = some (.int .i64 f1)) (h2 : w.cell? ⟨b, off + 2, none⟩ = some (.int .i64 f2)) : Calls Try.prog 49 #[.slice (some ⟨b, off, none⟩) 1 c] w fun r w' => ∃ g cap, r = .returned (.slice (some ⟨g, 0, none⟩) 1 cap) ∧ PlanIs w' (.slice (some ⟨g, 0, none⟩) 1 cap) [(f0, f1, f2)] ∧ Below w.heap.size w w' := by
  obtain ⟨i, hi, hz, hs, hb⟩ := infoF
  refine (AnyE.slices_Clone layCloneF i _ 3 24 hi hz hs hb rfl (by decide) Try.sizeOf34 b off 1 c [.int .i64 f0, .int .i64 f1, .int .i64 f2] w rfl (by decide) (by decide) (fun j u hu => ?_) (fun u hu => ?_)).mono ?_
  · match j, hu with
    | 0, hu => cases hu; exact h0
    | 1, hu => cases hu; exact h1
    | 2, hu => cases hu; exact h2
  · simp at hu
    rcases hu with rfl | rfl | rfl <;> rfl
  · rintro r w' ⟨v', rfl, ho, _, hb⟩
    rcases ho.2 with ⟨_, h0⟩ | ⟨g, cap, cur, rfl, _, hg, hn, _⟩
    · cases h0
    · refine ⟨g, cap, rfl, ⟨_, cap, rfl, hn, fun _ => ⟨g, 0, cur, _, rfl, hg, fun j hj => ?_⟩⟩, hb⟩
      obtain rfl : j = 0 := by simpa using hj
      have c0 := ho.cells (g := g) rfl 0 (.int .i64 f0) rfl
      have c1 := ho.cells (g := g) rfl 1 (.int .i64 f1) rfl
      have c2 := ho.cells (g := g) rfl 2 (.int .i64 f2) rfl
      rw [Addr.add_lit] at c0 c1 c2
      exact ⟨c0, c1, c2⟩
/-- The plan's question, of one fall. -/
theorem passed_any {bx p n : Nat} (hb : w.cell? ⟨bx, 0, none⟩ = some (.pointer (some ⟨p, 0, none⟩))) (hn : w.cell? ⟨p, 4, none⟩ = some (.int .i64 (n : Int))) (hge : ¬ f0 < (n : Int)) : Calls Try.prog 50 #[.agg #[.int .i64 f0, .int .i64 f1, .int .i64 f2], .pointer (some ⟨bx, 0, none⟩)] w fun r w' => r = .returned (.bool false) ∧ Below w.heap.size w w' := by
  go_enter Try.func50, Try.ntmps50
  go_upto_region 1 with (fail)
  generalize hW : World.alloc _ _ = W
  have hB : Below w.heap.size w W := by rw [← hW]; exact one_newD w _
  have hZ : W.heap[w.heap.size]? = some (.cells #[.int .i64 f0, .int .i64 f1, .int .i64 f2] 34 (0, 0)) := by rw [← hW]; exact heap_alloc_new w _
  have y0 := (hB.cell (p := ⟨bx, 0, none⟩) (lt_cellD hb)).trans hb
  have y1 := (hB.cell (p := ⟨p, 4, none⟩) (lt_cellD hn)).trans hn
  obtain ⟨z0, z1, z2, _, _, _⟩ := box3 hZ
  have HB : Hid _ := hB
  clear hW hZ hB hb hn
  go_quiet (fail)
  go_wp2
  go_ret
  exact ⟨rfl, bel_drewD HB.out _⟩
theorem index_f1 {bx p n g cap : Nat} (hp : PlanIs w (.slice (some ⟨g, 0, none⟩) 1 cap) [(f0, f1, f2)]) (hb : w.cell? ⟨bx, 0, none⟩ = some (.pointer (some ⟨p, 0, none⟩))) (hn : w.cell? ⟨p, 4, none⟩ = some (.int .i64 (n : Int))) (hge : ¬ f0 < (n : Int)) : Calls Try.prog 77 #[.slice (some ⟨g, 0, none⟩) 1 cap, .func (.func 50) #[] #[.pointer (some ⟨bx, 0, none⟩)]] w fun r w' => r = .returned (.int .i64 (-1)) ∧ Below w.heap.size w w' := by
  have hF := passed_any (f1 := f1) (f2 := f2) hb hn hge
  obtain ⟨ao, c, hv, _, hx⟩ := hp
  cases hv
  obtain ⟨g', off, cs, fr, he, _, hcs⟩ := hx (by simp)
  cases he
  obtain ⟨z0, z1, z2⟩ : w.cell? ⟨g, 0, none⟩ = some (.int .i64 f0) ∧ w.cell? ⟨g, 1, none⟩ = some (.int .i64 f1) ∧ w.cell? ⟨g, 2, none⟩ = some (.int .i64 f2) := hcs 0 (by simp)
  clear hx hcs hb hn hge
  go_enter Try.func77, Try.ntmps77
  go_wp2
  refine wp_loop_rounds 2 ?_
  rw [rounds_succ]
  go_wp2_with (go_at_call 50; refine hF.mono ?_; rintro r w1 ⟨rfl, hb⟩; have HB1 : Hid (Below w.heap.size w w1) := hb; clear hb)
  rw [rounds_succ]
  go_wp2
  go_ret
  exact ⟨rfl, HB1.out⟩
theorem delete_f1 {bx p n g cap : Nat} (hp : PlanIs w (.slice (some ⟨g, 0, none⟩) 1 cap) [(f0, f1, f2)]) (hb : w.cell? ⟨bx, 0, none⟩ = some (.pointer (some ⟨p, 0, none⟩))) (hn : w.cell? ⟨p, 4, none⟩ = some (.int .i64 (n : Int))) (hge : ¬ f0 < (n : Int)) : Calls Try.prog 48 #[.slice (some ⟨g, 0, none⟩) 1 cap, .func (.func 50) #[] #[.pointer (some ⟨bx, 0, none⟩)]] w fun r w' => r = .returned (.slice (some ⟨g, 0, none⟩) 1 cap) ∧ Below w.heap.size w w' := by
  have hI := index_f1 hp hb hn hge
  clear hp hb hn hge
  go_enter Try.func48, Try.ntmps48
  go_wp2_with (go_at_call 77; refine hI.mono ?_; rintro r w1 ⟨rfl, hb⟩; have HB1 : Hid (Below w.heap.size w w1) := hb; clear hb)
  go_ret
  exact ⟨rfl, HB1.out⟩
theorem delete_f0 {fv : Value} : Calls Try.prog 48 #[.slice none 0 0, fv] w fun r w' => r = .returned (.slice none 0 0) ∧ w' = w := by
  have hI : ∀ w, Calls Try.prog 77 #[.slice none 0 0, fv] w fun r w' => r = .returned (.int .i64 (-1)) ∧ w' = w := by
    intro w
    go_enter Try.func77, Try.ntmps77
    go_wp2
    refine wp_loop_rounds 1 ?_
    rw [rounds_succ]
    go_wp2
    go_ret
    exact ⟨rfl, rfl⟩
  go_enter Try.func48, Try.ntmps48
  go_wp2_with (go_at_call 77; refine (hI _).mono ?_; rintro r w1 ⟨rfl, rfl⟩)
  go_ret
  exact ⟨rfl, rfl⟩
theorem sort_f {ao : Option Addr} {n cap : Nat} {fv : Value} (hn : n ≤ 1) : Calls Try.prog 51 #[.slice ao n cap, fv] w fun r w' => r = .returned (.tuple #[]) ∧ w' = w := by
  have hlt : ¬ (1 : Int) < (n : Int) := by omega
  have hle : ¬ (20 : Int) ≤ (n : Int) := by omega
  have hl2 : ¬ (20 : Int) < (n : Int) := by omega
  have hI : ∀ w, Calls Try.prog 100 #[.slice ao n cap, .int .i64 0, .int .i64 n, fv] w fun r w' => r = .returned (.tuple #[]) ∧ w' = w := by
    intro w
    go_enter Try.func100, Try.ntmps100
    go_wp2
    refine wp_loop_rounds 1 ?_
    rw [rounds_succ]
    go_wp2
    go_end0
    exact ⟨rfl, rfl⟩
  have hS : ∀ w, Calls Try.prog 78 #[.slice ao n cap, .int .i64 n, fv] w fun r w' => r = .returned (.tuple #[]) ∧ w' = w := by
    intro w
    go_enter Try.func78, Try.ntmps78
    go_wp2
    refine wp_loop_rounds 1 ?_
    rw [rounds_succ]
    go_wp2_with (go_at_call 100; refine (hI _).mono ?_; rintro r w1 ⟨rfl, rfl⟩)
    refine wp_loop_rounds 1 ?_
    rw [rounds_succ]
    go_wp2
    go_end0
    exact ⟨rfl, rfl⟩
  go_enter Try.func51, Try.ntmps51
  go_wp2_with (go_at_call 78; refine (hS _).mono ?_; rintro r w1 ⟨rfl, rfl⟩)
  go_end0
  exact ⟨rfl, rfl⟩
end
set_option maxRecDepth 100000 in
set_option maxHeartbeats 800000 in
theorem plan_one {w : World} {B p : Nat} {A : Dk} {b off c : Nat} {f0 f1 f2 : Int} (h0 : w.cell? ⟨b, off, none⟩ = some (.int .i64 f0)) (h1 : w.cell? ⟨b, off + 1, none⟩ = some (.int .i64 f1)) (h2 : w.cell? ⟨b, off + 2, none⟩ = some (.int .i64 f2)) (hge : ¬ f0 < (A.n : Int)) (h : DkAt w B p A) (hB : B ≤ w.heap.size) : Calls Try.prog 24 #[.pointer (some ⟨p, 0, none⟩), .slice (some ⟨b, off, none⟩) 1 c] w fun r w' => r = .returned (.tuple #[]) ∧ ∃ v', DkAt w' B p (A.wp v') ∧ PlanIs w' v' [(f0, f1, f2)] ∧ FrD B w w' := by
  obtain ⟨mn, ms, lv, h⟩ := h
  have HD0 : Hid (DA w B p A mn ms lv) := h
  have HB0 : Hid (B ≤ w.heap.size) := hB
  have HC : Hid (∀ W, Below w.heap.size w W → Calls Try.prog 49 #[.slice (some ⟨b, off, none⟩) 1 c] W fun r w' => ∃ g cap, r = .returned (.slice (some ⟨g, 0, none⟩) 1 cap) ∧ PlanIs w' (.slice (some ⟨g, 0, none⟩) 1 cap) [(f0, f1, f2)] ∧ Below W.heap.size W w') := fun W hW => clone_f1 ((hW.cell (p := ⟨b, off, none⟩) (lt_cellD h0)).trans h0) ((hW.cell (p := ⟨b, off + 1, none⟩) (lt_cellD h1)).trans h1) ((hW.cell (p := ⟨b, off + 2, none⟩) (lt_cellD h2)).trans h2)
  have HGe : Hid (¬ f0 < (A.n : Int)) := hge
  clear h0 h1 h2 hge
  clear h hB
  go_enter Try.func24, Try.ntmps24
  go_upto_region 1 with (fail)
  generalize hW : World.alloc _ _ = W
  have hb : Below w.heap.size w W := by rw [← hW]; exact one_newD w _
  have hx : W.cell? ⟨w.heap.size, 0, none⟩ = some (.pointer (some ⟨p, 0, none⟩)) := by rw [← hW]; exact cell_blk (heap_alloc_new w _)
  have HB1 : Hid (Below w.heap.size w W) := hb
  have hbp : p < w.heap.size := HD0.out.plt
  have hbx : w.heap.size ≠ p := by omega
  clear hW hb hbp
  obtain ⟨bx, hq⟩ : ∃ bx, w.heap.size = bx := ⟨_, rfl⟩
  have HQ : Hid (w.heap.size = bx) := hq
  rw [hq] at hx hbx ⊢
  clear hq
  go_upto_region 2 with (fail)
  have bd : Below W.heap.size W W.drew := Below.drew (Below.refl _ _)
  obtain ⟨Wd, hWd⟩ : ∃ Wd, W.drew = Wd := ⟨_, rfl⟩
  rw [hWd] at bd
  have HBd : Hid (Below w.heap.size w Wd) := HB1.out.trans (bd.mono HB1.out.size)
  have hS : (fun w' : World => w'.cell? ⟨bx, 0, none⟩ = some (.pointer (some ⟨p, 0, none⟩))) Wd := (bd.cell (p := ⟨bx, 0, none⟩) (lt_cellD hx)).trans hx
  have HS : Hid (Wd.cell? ⟨bx, 0, none⟩ = some (.pointer (some ⟨p, 0, none⟩))) := hS
  clear bd hx
  refine wp_calmD ?_
  refine wp_region_L [7] (fun w' : World => w'.cell? ⟨bx, 0, none⟩ = some (.pointer (some ⟨p, 0, none⟩))) (by kernel_rfl) ?_
  rw [hWd]
  clear hWd
  refine wpAnyL_take (i := 0) 6 (v := .pointer (some ⟨p, 0, none⟩)) rfl rfl (by kernel_rfl) (by kernel_rfl) (by kernel_rfl) (by kernel_rfl) (by kernel_rfl) (by kernel_rfl) (fun _ _ _ h => h) hS (by rfl) (by intro w' hSw; have y0 : w'.cell? ⟨bx, 0, none⟩ = some (.pointer (some ⟨p, 0, none⟩)) := hSw; clear hSw; go_simp <;> with_reducible rfl) ?_
  simp only [Act.put, List.setIfInBounds_toArray, List.set_cons_zero, List.set_cons_succ]
  refine wpAnyL_take (i := 1) 7 (v := .slice (some ⟨b, off, none⟩) 1 c) rfl rfl (by kernel_rfl) (by kernel_rfl) (by kernel_rfl) (by kernel_rfl) (by kernel_rfl) (by kernel_rfl) (fun _ _ _ h => h) hS (by rfl) (by intro w' hSw; have y0 : w'.cell? ⟨bx, 0, none⟩ = some (.pointer (some ⟨p, 0, none⟩)) := hSw; clear hSw; go_simp <;> with_reducible rfl) ?_
  simp only [Act.put, List.setIfInBounds_toArray, List.set_cons_zero, List.set_cons_succ]
  refine wpAnyL_take (i := 3) 9 (v := .func (.func 50) #[] #[.pointer (some ⟨bx, 0, none⟩)]) rfl rfl (by kernel_rfl) (by kernel_rfl) (by kernel_rfl) (by kernel_rfl) (by kernel_rfl) (by kernel_rfl) (fun _ _ _ h => h) hS (by rfl) (by intro w' hSw; have y0 : w'.cell? ⟨bx, 0, none⟩ = some (.pointer (some ⟨p, 0, none⟩)) := hSw; clear hSw; go_simp <;> with_reducible rfl) ?_
  simp only [Act.put, List.setIfInBounds_toArray, List.set_cons_zero, List.set_cons_succ]
  refine wpAnyL_one (i := 2) (by kernel_rfl) rfl (fun Ka hKa => ?_)
  go_simp
  refine (HC.out _ HBd.out).mono ?_
  rintro r w2 ⟨g, cap, rfl, hp, hb⟩
  have HP2 : Hid (PlanIs w2 (.slice (some ⟨g, 0, none⟩) 1 cap) [(f0, f1, f2)]) := hp
  have HB2 : Hid (Below w.heap.size w w2) := HBd.out.trans (hb.mono HBd.out.size)
  have hS2 : (fun w' : World => w'.cell? ⟨bx, 0, none⟩ = some (.pointer (some ⟨p, 0, none⟩))) w2 := (hb.cell (p := ⟨bx, 0, none⟩) (lt_cellD HS.out)).trans HS.out
  have HS2 : Hid (w2.cell? ⟨bx, 0, none⟩ = some (.pointer (some ⟨p, 0, none⟩))) := hS2
  refine hKa.out _ _ (fun _ => hS2) ?_
  clear hKa Ka hp hb hS hS2
  try simp only [Act.put, List.setIfInBounds_toArray, List.set_cons_zero, List.set_cons_succ]
  have hDel := delete_f1 (n := A.n) HP2.out HS2.out (HD0.out.new HB2.out).cells.2.2.2.2.1 HGe.out
  refine wpAnyL_one (i := 4) (by kernel_rfl) rfl (fun Ka hKa => ?_)
  go_simp
  refine hDel.mono ?_
  rintro r w3 ⟨rfl, hb⟩
  have HP3 : Hid (PlanIs w3 (.slice (some ⟨g, 0, none⟩) 1 cap) [(f0, f1, f2)]) := HP2.out.new hb
  have HB3 : Hid (Below w.heap.size w w3) := HB2.out.trans (hb.mono HB2.out.size)
  have HS3 : Hid (w3.cell? ⟨bx, 0, none⟩ = some (.pointer (some ⟨p, 0, none⟩))) := (hb.cell (p := ⟨bx, 0, none⟩) (lt_cellD HS2.out)).trans HS2.out
  refine hKa.out _ _ (fun _ => HS3.out) ?_
  clear hKa Ka hb hDel
  try simp only [Act.put, List.setIfInBounds_toArray, List.set_cons_zero, List.set_cons_succ]
  refine wpAnyL_one (i := 5) (by kernel_rfl) rfl (fun Ka hKa => ?_)
  go_simp
  refine hKa.out _ _ (fun _ => HS3.out) ?_
  clear hKa Ka
  try simp only [Act.put, List.setIfInBounds_toArray, List.set_cons_zero, List.set_cons_succ]
  refine wpAnyL_one (i := 6) (by kernel_rfl) rfl (fun Ka hKa => ?_)
  go_simp
  refine hKa.out _ _ (fun _ => HS3.out) ?_
  clear hKa Ka
  try simp only [Act.put, List.setIfInBounds_toArray, List.set_cons_zero, List.set_cons_succ]
  have hDn := HD0.out.new HB3.out
  have d3 := hDn.cells.2.2.2.1
  have g3 := hDn.free 3
  have HN : Hid _ := da_plan HD0.out HB3.out (.slice (some ⟨g, 0, none⟩) 1 cap)
  have hx4 : (w3.setCell ⟨p, 3, none⟩ (.slice (some ⟨g, 0, none⟩) 1 cap)).cell? ⟨bx, 0, none⟩ = some (.pointer (some ⟨p, 0, none⟩)) := fr_cellD (Fr.setCell (S := fun k => k = p) w3 ⟨p, 3, none⟩ _ rfl) hbx HS3.out
  refine wpAnyL_one (i := 7) (by kernel_rfl) rfl (fun Ka hKa => ?_)
  go_simp
  refine hKa.out _ _ (fun h => absurd h (Bool.eq_false_iff.1 (by kernel_rfl))) ?_
  clear hKa Ka hDn d3 g3
  try simp only [Act.put, List.setIfInBounds_toArray, List.set_cons_zero, List.set_cons_succ]
  refine wpAnyL_done (by kernel_rfl) ?_ _
  obtain ⟨w4, hw4⟩ : ∃ w4, w3.setCell ⟨p, 3, none⟩ (.slice (some ⟨g, 0, none⟩) 1 cap) = w4 := ⟨_, rfl⟩
  have HF4 : Hid (Fr w3 w4 (fun k => k = p)) := by show Fr _ _ _; rw [← hw4]; exact Fr.setCell (S := fun k => k = p) w3 ⟨p, 3, none⟩ _ rfl
  rw [hw4] at HN hx4 ⊢
  clear hw4
  obtain ⟨_, _, _, d3, _, _⟩ := HN.out.1.cells
  have d3 : w4.cell? ⟨p, 3, none⟩ = some (.slice (some ⟨g, 0, none⟩) 1 cap) := d3
  go_wp2_with (go_at_call 51; refine (sort_f (by decide)).mono ?_; rintro r w5 ⟨rfl, hw⟩; rw [hw]; clear hw)
  go_end0
  refine ⟨rfl, _, ⟨_, _, _, HN.out.1⟩, ?_, HN.out.2⟩
  refine HP3.out.kept (fun k cs fr hk => HF4.out.block k (lt_blk hk) (fun e => ?_))
  have hp3 := (HD0.out.new HB3.out).blk
  rw [e, hp3] at hk
  cases hk
set_option maxRecDepth 100000 in
set_option maxHeartbeats 800000 in
theorem plan_none {w : World} {B p : Nat} {A : Dk} (h : DkAt w B p A) (hB : B ≤ w.heap.size) : Calls Try.prog 24 #[.pointer (some ⟨p, 0, none⟩), .slice none 0 0] w fun r w' => r = .returned (.tuple #[]) ∧ DkAt w' B p (A.wp (.slice none 0 0)) ∧ FrD B w w' := by
  obtain ⟨mn, ms, lv, h⟩ := h
  have HD0 : Hid (DA w B p A mn ms lv) := h
  have HB0 : Hid (B ≤ w.heap.size) := hB
  have hC : ∀ W, Calls Try.prog 49 #[.slice none 0 0] W fun r w' => r = .returned (.slice none 0 0) ∧ w' = W := fun W => AnyE.slices_Clone_nil layCloneF 0 0 W
  clear h hB
  go_enter Try.func24, Try.ntmps24
  go_upto_region 1 with (fail)
  generalize hW : World.alloc _ _ = W
  have hb : Below w.heap.size w W := by rw [← hW]; exact one_newD w _
  have hx : W.cell? ⟨w.heap.size, 0, none⟩ = some (.pointer (some ⟨p, 0, none⟩)) := by rw [← hW]; exact cell_blk (heap_alloc_new w _)
  have HB1 : Hid (Below w.heap.size w W) := hb
  have hbp : p < w.heap.size := HD0.out.plt
  have hbx : w.heap.size ≠ p := by omega
  clear hW hb hbp
  obtain ⟨bx, hq⟩ : ∃ bx, w.heap.size = bx := ⟨_, rfl⟩
  have HQ : Hid (w.heap.size = bx) := hq
  rw [hq] at hx hbx ⊢
  clear hq
  go_upto_region 2 with (fail)
  have bd : Below W.heap.size W W.drew := Below.drew (Below.refl _ _)
  obtain ⟨Wd, hWd⟩ : ∃ Wd, W.drew = Wd := ⟨_, rfl⟩
  rw [hWd] at bd
  have HBd : Hid (Below w.heap.size w Wd) := HB1.out.trans (bd.mono HB1.out.size)
  have hS : (fun w' : World => w'.cell? ⟨bx, 0, none⟩ = some (.pointer (some ⟨p, 0, none⟩))) Wd := (bd.cell (p := ⟨bx, 0, none⟩) (lt_cellD hx)).trans hx
  have HS : Hid (Wd.cell? ⟨bx, 0, none⟩ = some (.pointer (some ⟨p, 0, none⟩))) := hS
  clear bd hx
  refine wp_calmD ?_
  refine wp_region_L [7] (fun w' : World => w'.cell? ⟨bx, 0, none⟩ = some (.pointer (some ⟨p, 0, none⟩))) (by kernel_rfl) ?_
  rw [hWd]
  clear hWd
  refine wpAnyL_take (i := 0) 6 (v := .pointer (some ⟨p, 0, none⟩)) rfl rfl (by kernel_rfl) (by kernel_rfl) (by kernel_rfl) (by kernel_rfl) (by kernel_rfl) (by kernel_rfl) (fun _ _ _ h => h) hS (by rfl) (by intro w' hSw; have y0 : w'.cell? ⟨bx, 0, none⟩ = some (.pointer (some ⟨p, 0, none⟩)) := hSw; clear hSw; go_simp <;> with_reducible rfl) ?_
  simp only [Act.put, List.setIfInBounds_toArray, List.set_cons_zero, List.set_cons_succ]
  refine wpAnyL_take (i := 1) 7 (v := .slice none 0 0) rfl rfl (by kernel_rfl) (by kernel_rfl) (by kernel_rfl) (by kernel_rfl) (by kernel_rfl) (by kernel_rfl) (fun _ _ _ h => h) hS (by rfl) (by intro w' hSw; have y0 : w'.cell? ⟨bx, 0, none⟩ = some (.pointer (some ⟨p, 0, none⟩)) := hSw; clear hSw; go_simp <;> with_reducible rfl) ?_
  simp only [Act.put, List.setIfInBounds_toArray, List.set_cons_zero, List.set_cons_succ]
  refine wpAnyL_take (i := 3) 9 (v := .func (.func 50) #[] #[.pointer (some ⟨bx, 0, none⟩)]) rfl rfl (by kernel_rfl) (by kernel_rfl) (by kernel_rfl) (by kernel_rfl) (by kernel_rfl) (by kernel_rfl) (fun _ _ _ h => h) hS (by rfl) (by intro w' hSw; have y0 : w'.cell? ⟨bx, 0, none⟩ = some (.pointer (some ⟨p, 0, none⟩)) := hSw; clear hSw; go_simp <;> with_reducible rfl) ?_
  simp only [Act.put, List.setIfInBounds_toArray, List.set_cons_zero, List.set_cons_succ]
  refine wpAnyL_one (i := 2) (by kernel_rfl) rfl (fun Ka hKa => ?_)
  go_simp
  refine (hC _).mono ?_
  rintro r w2 ⟨rfl, hw⟩
  rw [hw]
  clear hw
  refine hKa.out _ _ (fun _ => HS.out) ?_
  clear hKa Ka hS
  try simp only [Act.put, List.setIfInBounds_toArray, List.set_cons_zero, List.set_cons_succ]
  refine wpAnyL_one (i := 4) (by kernel_rfl) rfl (fun Ka hKa => ?_)
  go_simp
  refine delete_f0.mono ?_
  rintro r w2 ⟨rfl, hw⟩
  rw [hw]
  clear hw
  refine hKa.out _ _ (fun _ => HS.out) ?_
  clear hKa Ka
  have HB3 : Hid (Below w.heap.size w Wd) := HBd.out
  have HS3 : Hid (Wd.cell? ⟨bx, 0, none⟩ = some (.pointer (some ⟨p, 0, none⟩))) := HS.out
  try simp only [Act.put, List.setIfInBounds_toArray, List.set_cons_zero, List.set_cons_succ]
  refine wpAnyL_one (i := 5) (by kernel_rfl) rfl (fun Ka hKa => ?_)
  go_simp
  refine hKa.out _ _ (fun _ => HS3.out) ?_
  clear hKa Ka
  try simp only [Act.put, List.setIfInBounds_toArray, List.set_cons_zero, List.set_cons_succ]
  refine wpAnyL_one (i := 6) (by kernel_rfl) rfl (fun Ka hKa => ?_)
  go_simp
  refine hKa.out _ _ (fun _ => HS3.out) ?_
  clear hKa Ka
  try simp only [Act.put, List.setIfInBounds_toArray, List.set_cons_zero, List.set_cons_succ]
  have hDn := HD0.out.new HB3.out
  have d3 := hDn.cells.2.2.2.1
  have g3 := hDn.free 3
  have HN : Hid _ := da_plan HD0.out HB3.out (.slice none 0 0)
  have hx4 : (Wd.setCell ⟨p, 3, none⟩ (.slice none 0 0)).cell? ⟨bx, 0, none⟩ = some (.pointer (some ⟨p, 0, none⟩)) := fr_cellD (Fr.setCell (S := fun k => k = p) Wd ⟨p, 3, none⟩ _ rfl) hbx HS3.out
  refine wpAnyL_one (i := 7) (by kernel_rfl) rfl (fun Ka hKa => ?_)
  go_simp
  refine hKa.out _ _ (fun h => absurd h (Bool.eq_false_iff.1 (by kernel_rfl))) ?_
  clear hKa Ka hDn d3 g3
  try simp only [Act.put, List.setIfInBounds_toArray, List.set_cons_zero, List.set_cons_succ]
  refine wpAnyL_done (by kernel_rfl) ?_ _
  obtain ⟨w4, hw4⟩ : ∃ w4, Wd.setCell ⟨p, 3, none⟩ (.slice none 0 0) = w4 := ⟨_, rfl⟩
  rw [hw4] at HN hx4 ⊢
  clear hw4
  obtain ⟨_, _, _, d3, _, _⟩ := HN.out.1.cells
  have d3 : w4.cell? ⟨p, 3, none⟩ = some (.slice none 0 0) := d3
  go_wp2_with (go_at_call 51; refine (sort_f (by decide)).mono ?_; rintro r w5 ⟨rfl, hw⟩; rw [hw]; clear hw)
  go_end0
  exact ⟨rfl, ⟨_, _, _, HN.out.1⟩, HN.out.2⟩
end Go.Proofs.Ytdapapnkmicklaa
end
