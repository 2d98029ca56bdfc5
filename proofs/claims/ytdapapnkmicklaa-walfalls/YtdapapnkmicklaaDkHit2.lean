/- A change at which a fall strikes: the power fails ahead of it. -/
import Derived.Test.YtdapapnkmicklaaDkHit
import Derived.Test.YtdapapnkmicklaaDkSec
namespace Go.Proofs.Ytdapapnkmicklaa
open Go.RowKit Go.Maps
attribute [local go_sem] Oper.semAt_some
theorem BdA.wp {A : Dk} {M : Nat} (h : BdA A M) (v : Value) : BdA (A.wp v) M := ⟨h.fit, h.sum, h.len, h.n⟩
theorem fail_wp (A : Dk) (v : Value) (k t : Int) : (A.wp v).fail k t = (A.fail k t).wp v := rfl
section
variable {w : World} {B p M : Nat} {A : Dk} {mn ms : Option Nat} {lv : Value} {nm tt s : Bs} {L : List (Int × Int × Int)} {f : Int × Int × Int}
/-- The disk behind the fall. -/
def HitAt (w w' : World) (B p : Nat) (A : Dk) (f : Int × Int × Int) (L : List (Int × Int × Int)) : Prop := ∃ v, DkAt w' B p ((A.fail f.2.1 f.2.2).wp v) ∧ PlanIs w' v L ∧ FrD B w w'
set_option maxRecDepth 100000 in
set_option maxHeartbeats 800000 in
theorem attempt_hit {c : Chg} (h : DA w B p A mn ms lv) (hB : B ≤ w.heap.size) (hp : PlanIs w A.pv (f :: L)) (he : f.1 = (A.n : Int)) (hbd : BdA A M) : Calls Try.prog 64 #[.pointer (some ⟨p, 0, none⟩), .agg #[.int .i64 c.k, .string (str c.nm), .string (str c.to), .string (str c.s)]] w fun r w' => r = .returned (.int .i64 7) ∧ HitAt w w' B p A f L := by
  have HS : Hid (∀ W, Below w.heap.size w W → Calls Try.prog 83 #[.pointer (some ⟨p, 0, none⟩)] W fun r w' => r = .returned (.tuple #[.agg #[.int .i64 f.1, .int .i64 f.2.1, .int .i64 f.2.2], .bool true]) ∧ ∃ v, DkAt w' B p (A.wp v) ∧ PlanIs w' v L ∧ FrD B W w') := fun W hW => struck_hit (h.new hW) (Nat.le_trans hB hW.size) (hp.new hW) he
  have HFl : Hid (∀ W v, B ≤ W.heap.size → DkAt W B p (A.wp v) → Calls Try.prog 46 #[.pointer (some ⟨p, 0, none⟩), .int .i64 f.2.1, .int .i64 f.2.2] W fun r w' => r = .returned (.tuple #[]) ∧ DkAt w' B p ((A.fail f.2.1 f.2.2).wp v) ∧ FrD B W w') := fun W v hBW hD => by
    obtain ⟨mn', ms', lv', hD⟩ := hD
    have := fail_any hD hBW (hbd.wp v) f.2.1 f.2.2
    rw [fail_wp] at this
    exact this
  have HB0 : Hid (B ≤ w.heap.size) := hB
  clear h hB hp he hbd
  obtain ⟨f0, f1, f2⟩ := f
  simp only at HS HFl
  go_enter Try.func64, Try.ntmps64
  go_upto_region 1 with (fail)
  generalize hW : World.alloc _ _ = W
  have HBW : Hid (Below w.heap.size w W) := by show Below _ _ _; rw [← hW]; exact one_newD _ _
  clear hW
  go_upto_region 2 with (go_at_call 83; refine (HS.out _ HBW.out).mono ?_; rintro r w1 ⟨rfl, v, hD, hp, hF⟩; have HD1 : Hid (DkAt w1 B p (A.wp v)) := hD; have HP1 : Hid (PlanIs w1 v L) := hp; have HF1 : Hid (FrD B w w1) := (FrD.new HBW.out).trans hF; clear hD hp hF)
  generalize hW2 : World.alloc _ _ = W2
  have hb2 : Below w1.heap.size w1 W2 := by rw [← hW2]; exact one_newD _ _
  have hq2 : W2.heap[w1.heap.size]? = some (.cells #[.int .i64 f0, .int .i64 f1, .int .i64 f2] 34 (0, 0)) := by rw [← hW2]; exact heap_alloc_new _ _
  have HD2 : Hid (DkAt W2 B p (A.wp v)) := HD1.out.new hb2
  have HP2 : Hid (PlanIs W2 v L) := HP1.out.new hb2
  have HF2 : Hid (FrD B w W2) := HF1.out.trans (FrD.new hb2)
  have HB2 : Hid (B ≤ W2.heap.size) := Nat.le_trans HB0.out HF2.out.size
  obtain ⟨z0, z1, z2, _, _, _⟩ := box3 hq2
  clear hW2 hb2 hq2
  generalize w1.heap.size = q at z0 z1 z2 ⊢
  go_wp2_with (go_at_call 46; refine (HFl.out _ v HB2.out HD2.out).mono ?_; rintro r w3 ⟨rfl, hD, hF⟩; have HD3 : Hid (DkAt w3 B p ((A.fail f1 f2).wp v)) := hD; have HP3 : Hid (PlanIs w3 v L) := HP2.out.frD hF; have HF3 : Hid (FrD B w w3) := HF2.out.trans hF; clear hD hF)
  go_ret
  exact ⟨rfl, v, HD3.out, HP3.out, HF3.out⟩
theorem HitAt.back {w0 w w' : World} (h : HitAt w w' B p A f L) (hb : FrD B w0 w) : HitAt w0 w' B p A f L := by
  obtain ⟨v, h1, h2, h3⟩ := h
  exact ⟨v, h1, h2, hb.trans h3⟩
set_option maxRecDepth 100000 in
set_option maxHeartbeats 400000 in
theorem put_hit {k : Int} (h : DA w B p A mn ms lv) (hB : B ≤ w.heap.size) (hd : A.dead = false) (hn : nameB nm = true) (hp : PlanIs w A.pv (f :: L)) (he : f.1 = (A.n : Int)) (hbd : BdA A M) : Calls Try.prog 57 #[.pointer (some ⟨p, 0, none⟩), .int .i64 k, .string (str nm), .string (str s)] w fun r w' => r = .returned (.int .i64 7) ∧ HitAt w w' B p A f L := by
  have h32 : (32 : Nat) ≤ maxLen := by decide
  have hm := Nat.le_trans (name32 hn) h32
  have hH := hind1 h hd hm (er := 0) (by rw [hn]; rfl)
  have hb0 := one_newD w (.cells #[.string (str nm)] 9)
  have hA := attempt_hit (c := ⟨k, nm, [], s⟩) (h.new hb0) (Nat.le_trans hB hb0.size) (hp.new hb0) he hbd
  have HB : Hid (FrD B w (w.alloc (.cells #[.string (str nm)] 9))) := FrD.new hb0
  clear h hn hd hb0 hp he hbd
  go_enter Try.func57, Try.ntmps57
  go_wp2_with (first
    | (go_at_call 61; refine hH.mono ?_; rintro r w' ⟨rfl, rfl⟩)
    | (go_at_call 64; refine Calls.mono hA ?_; rintro r w2 ⟨rfl, hD2⟩; have HD2 : Hid _ := hD2; clear hD2))
  go_ret
  exact ⟨rfl, HitAt.back HD2.out HB.out⟩
theorem append_hit (h : DA w B p A mn ms lv) (hB : B ≤ w.heap.size) (hd : A.dead = false) (hn : nameB nm = true) (hp : PlanIs w A.pv (f :: L)) (he : f.1 = (A.n : Int)) (hbd : BdA A M) : Calls Try.prog 30 #[.pointer (some ⟨p, 0, none⟩), .string (str nm), .string (str s)] w fun r w' => r = .returned (.int .i64 7) ∧ HitAt w w' B p A f L := by
  have hP := put_hit (k := 0) (s := s) h hB hd hn hp he hbd
  clear h hn hd hp he hbd
  go_enter Try.func30, Try.ntmps30
  go_wp2_with (go_at_call 57; refine hP.mono ?_; rintro r w2 ⟨rfl, hD2⟩; have HD2 : Hid _ := hD2; clear hD2)
  go_ret
  exact ⟨rfl, HD2.out⟩
theorem write_hit (h : DA w B p A mn ms lv) (hB : B ≤ w.heap.size) (hd : A.dead = false) (hn : nameB nm = true) (hp : PlanIs w A.pv (f :: L)) (he : f.1 = (A.n : Int)) (hbd : BdA A M) : Calls Try.prog 27 #[.pointer (some ⟨p, 0, none⟩), .string (str nm), .string (str s)] w fun r w' => r = .returned (.int .i64 7) ∧ HitAt w w' B p A f L := by
  have hP := put_hit (k := 1) (s := s) h hB hd hn hp he hbd
  clear h hn hd hp he hbd
  go_enter Try.func27, Try.ntmps27
  go_wp2_with (go_at_call 57; refine hP.mono ?_; rintro r w2 ⟨rfl, hD2⟩; have HD2 : Hid _ := hD2; clear hD2)
  go_ret
  exact ⟨rfl, HD2.out⟩
set_option maxRecDepth 100000 in
set_option maxHeartbeats 400000 in
theorem move_hit (h : DA w B p A mn ms lv) (hB : B ≤ w.heap.size) (hd : A.dead = false) (hn : nameB nm = true) (ht : nameB tt = true) (hg : (getF nm A.now).isSome = true) (hne : ¬ nm = tt) (hp : PlanIs w A.pv (f :: L)) (he : f.1 = (A.n : Int)) (hbd : BdA A M) : Calls Try.prog 35 #[.pointer (some ⟨p, 0, none⟩), .string (str nm), .string (str tt)] w fun r w' => r = .returned (.int .i64 7) ∧ HitAt w w' B p A f L := by
  have h32 : (32 : Nat) ≤ maxLen := by decide
  have hm := Nat.le_trans (name32 hn) h32
  have hH := hind2 h hd hm (Nat.le_trans (name32 ht) h32) (er := 0) (by rw [hn, ht]; rfl)
  have hb0 := one_newD w (.cells #[.string (str nm), .string (str tt)] 9)
  have hD := h.new hb0
  obtain ⟨c0, _, _, _, _, _⟩ := hD.cells
  have hlk := hD.now.look hm
  rw [hg] at hlk
  have HB : Hid (Below w.heap.size w (w.alloc (.cells #[.string (str nm), .string (str tt)] 9))) := hb0
  have HS : Hid (B ≤ w.heap.size) := hB
  have HPl : Hid (PlanIs w A.pv (f :: L)) := hp
  obtain ⟨W, hW⟩ : ∃ W, w.alloc (.cells #[.string (str nm), .string (str tt)] 9) = W := ⟨_, rfl⟩
  rw [hW] at hH c0 hlk HB hD
  have HD : Hid (DA W B p A mn ms lv) := hD
  have heq := str_eqB nm tt
  rw [decide_eq_false hne] at heq
  have HB9 : Hid (∀ x, Below w.heap.size w (W.alloc x)) := fun x => HB.out.trans ((one_newD _ _).mono HB.out.size)
  have HA : Hid (∀ x, Calls Try.prog 64 #[.pointer (some ⟨p, 0, none⟩), .agg #[.int .i64 2, .string (str nm), .string (str tt), .string (str [])]] (W.alloc x) fun r w' => r = .returned (.int .i64 7) ∧ HitAt (W.alloc x) w' B p A f L) := fun x => attempt_hit (c := ⟨2, nm, tt, []⟩) (HD.out.new (one_newD _ _)) (Nat.le_trans HS.out (HB9.out x).size) (HPl.out.new (HB9.out x)) he hbd
  clear h hn hd hD hb0 ht hg hne hB hp he hbd
  go_enter Try.func35, Try.ntmps35
  go_wp2_with (first
    | (go_at_call 61; refine hH.mono ?_; rintro r w' ⟨rfl, rfl⟩)
    | (go_at_call 64; refine Calls.mono (HA.out _) ?_; rintro r w2 ⟨rfl, hD2⟩; have HD2 : Hid _ := hD2; clear hD2))
  go_ret
  exact ⟨rfl, HitAt.back HD2.out (FrD.new (HB9.out _))⟩
end
theorem changes_any {w : World} {B p : Nat} {A : Dk} (h : DkAt w B p A) : Calls Try.prog 23 #[.pointer (some ⟨p, 0, none⟩)] w fun r w' => r = .returned (.int .i64 A.n) ∧ w' = w := by
  obtain ⟨mn, ms, lv, h⟩ := h
  obtain ⟨c0, c1, c2, c3, c4, c5⟩ := h.cells
  clear h
  go_enter Try.func23, Try.ntmps23
  go_wp2
  go_ret
  exact ⟨rfl, rfl⟩
end Go.Proofs.Ytdapapnkmicklaa
