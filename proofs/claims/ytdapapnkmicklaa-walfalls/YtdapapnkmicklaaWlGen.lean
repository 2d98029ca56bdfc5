/- Open of any short file, in one; a disk with one file. -/
import Derived.Test.YtdapapnkmicklaaWlAw
import Derived.Test.YtdapapnkmicklaaWlCut
namespace Go.Proofs.Ytdapapnkmicklaa
open Go.RowKit Go.Maps
attribute [local go_sem] Oper.semAt_some
def hdT (l : Bs) : Bs := (unfV l).1.headD []
def tlT (l : Bs) : List Bs := (unfV l).1.tail
theorem unf_short {T : List Bs} {m : Nat} (h : ∀ x ∈ T, x.length ≤ m) (hm : m < 18446744073709551616) : ∀ x ∈ T, x.length < 18446744073709551616 := fun x hx => Nat.lt_of_le_of_lt (h x hx) hm
section
variable {w : World} {B p : Nat} {A : Dk} {M k : Nat} {l : Bs}
theorem open_gen (h : DkAt w B p A) (hB : B ≤ w.heap.size) (hc : Cl A M k) (hM : M ≤ 2305843009213693952) (hM1 : 200000 ≤ M) (hk : k ≤ 90000) (hl : getF log_ A.sure = some l) (hsz : l.length ≤ 100000) : Calls Try.prog 12 #[.pointer (some ⟨p, 0, none⟩)] w fun r w' => ∃ q rv A' l', r = .returned (.tuple #[.pointer (some ⟨q, 0, none⟩), .int .i64 ((l.length : Int) - ((unfV l).2 : Int)), .int .i64 0]) ∧ Lg w' B q p (hdT l) rv (tlT l) ∧ DkAt w' B p A' ∧ FrD B w w' ∧ Cl A' M (k + 2) ∧ getF log_ A'.sure = some l' ∧ unfV l' = (hdT l :: tlT l, l'.length) := by
  obtain ⟨⟨T, e⟩, hU⟩ : ∃ q, unfV l = q := ⟨_, rfl⟩
  have hlen := unfV_len l
  have hI := unfV_is l
  rw [hU] at hlen hI
  simp only at hlen hI
  have hof : ofF log_ A.sure = l := by unfold ofF; rw [hl]; rfl
  unfold hdT tlT
  rw [hU]
  cases T with
  | nil =>
    obtain rfl := unfV_nil hU
    refine (open_none h hB hc hM (by omega) hk hof hU).mono ?_
    rintro r w' ⟨q, rfl, _, h2, h3, h4⟩
    have hF : (frs [[]]).length ≤ M := Nat.le_trans frs0 (by omega)
    obtain ⟨c1, c2⟩ := hc.anew hF
    exact ⟨q, _, _, _, by simp, h2, h3, h4, c1, c2, unfV_all _ (fun x hx => by simp at hx; subst hx; decide)⟩
  | cons s R =>
    have hs : s.length ≤ l.length := hlen.2 s List.mem_cons_self
    have hfr : (frs (s :: R)).length ≤ l.length := by
      have h1 := congrArg List.length hI.2
      rw [List.length_take] at h1
      omega
    have hfr2 := hfr
    rw [frs_cons, List.length_append] at hfr2
    have hR : R.length ≤ 900000 := by have := hlen.1; simp at this; omega
    refine (open_some h hB hc hM hk hl hU hR (fun _ => ⟨by omega, by omega⟩)).mono ?_
    rintro r w' ⟨q, rv, rfl, _, h2, _, h3, h4⟩
    have hall := unfV_all (s :: R) (unf_short (m := l.length) hlen.2 (by omega))
    by_cases he : e = l.length
    · rw [if_pos he] at h3
      refine ⟨q, rv, A, l, rfl, h2, h3, h4, hc.mono (by omega), hl, ?_⟩
      rw [hU, he]
      rfl
    · rw [if_neg he] at h3
      obtain ⟨c1, c2⟩ := hc.anew (F := frs (s :: R)) (by omega)
      exact ⟨q, rv, _, _, rfl, h2, h3, h4, c1, c2, hall⟩
theorem open_again {s : Bs} {R : List Bs} (h : DkAt w B p A) (hB : B ≤ w.heap.size) (hc : Cl A M k) (hM : M ≤ 2305843009213693952) (hk : k ≤ 90000) (hl : getF log_ A.sure = some l) (hU : unfV l = (s :: R, l.length)) (hR : R.length ≤ 900000) : Calls Try.prog 12 #[.pointer (some ⟨p, 0, none⟩)] w fun r w' => ∃ q rv, r = .returned (.tuple #[.pointer (some ⟨q, 0, none⟩), .int .i64 0, .int .i64 0]) ∧ w.heap.size ≤ q ∧ Lg w' B q p s rv R ∧ (∀ k, rv.ownBlock = some k → w.heap.size ≤ k) ∧ DkAt w' B p A ∧ FrD B w w' := by
  refine (open_some h hB hc hM hk hl hU hR (fun h => absurd rfl h)).mono ?_
  rintro r w' ⟨q, rv, rfl, h1, h2, h3, h4, h5⟩
  rw [if_pos rfl] at h4
  exact ⟨q, rv, by simp, h1, h2, h3, h4, h5⟩
theorem write_log (h : DkAt w B p dk0) (hB : B ≤ w.heap.size) (hl : l.length ≤ 100000) : Calls Try.prog 27 #[.pointer (some ⟨p, 0, none⟩), .string (str log_), .string (str l)] w fun r w' => r = .returned (.int .i64 0) ∧ DkAt w' B p (dk0.add ⟨1, log_, [], l⟩) ∧ FrD B w w' := by
  obtain ⟨mn, ms, lv, h⟩ := h
  exact write_ok h hB (quiet_nil rfl) rfl (by decide) (cl0.bd (by decide) (by decide) _ (by simp; omega))
theorem cl_log (hl : l.length ≤ 100000) : Cl (dk0.add ⟨1, log_, [], l⟩).sync 1000000 1 ∧ getF log_ (dk0.add ⟨1, log_, [], l⟩).sync.sure = some l := by
  have e : (dk0.add ⟨1, log_, [], l⟩).sync = ⟨[(log_, l)], [], 1, false, .slice none 0 0⟩ := rfl
  rw [e]
  refine ⟨⟨rfl, rfl, List.pairwise_singleton _ _, fun q hq => ?_, Nat.le_refl _, Nat.le_refl _, rfl⟩, ?_⟩
  · obtain rfl : q = (log_, l) := by simpa using hq
    show l.length ≤ _
    omega
  · show getF log_ [(log_, l)] = some l
    rw [getF, if_neg (b_irr _), if_pos rfl]
end
end Go.Proofs.Ytdapapnkmicklaa
