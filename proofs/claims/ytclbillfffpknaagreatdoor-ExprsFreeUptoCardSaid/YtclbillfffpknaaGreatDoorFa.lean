/-
  Plain: a value hangs on the last ones of its own names alone, for every right expression and every environment.
-/
import Derived.Test.YtclbillfffpknaaGreatDoorPm
namespace Go.Proofs.YtclbillfffpknaaGreatDoor
open Go.RowKit

def inN (ns : List ByteArray) (n : ByteArray) : Bool := ns.any fun m => decide (m = n)
theorem inN_iff (ns : List ByteArray) (n : ByteArray) : inN ns n = true ↔ n ∈ ns := by
  unfold inN
  rw [List.any_eq_true]
  constructor
  · rintro ⟨m, hm, e⟩; exact (of_decide_eq_true e) ▸ hm
  · intro h; exact ⟨n, h, decide_eq_true rfl⟩
/-- is there one of that name? -/
def hasNm (nb : ByteArray) (bs : List (ByteArray × Vl)) : Bool := bs.any fun p => decide (p.1 = nb)
/-- of an environment the last ones of these names -/
def fewL (ns : List ByteArray) : List (ByteArray × Vl) → List (ByteArray × Vl)
  | [] => []
  | p :: r => if inN ns p.1 = true ∧ hasNm p.1 r = false then p :: fewL ns r else fewL ns r
theorem few_mem (ns : List ByteArray) : ∀ (l : List (ByteArray × Vl)) (p : ByteArray × Vl), p ∈ fewL ns l → p ∈ l
  | [], p, h => by cases h
  | q :: r, p, h => by
    rw [fewL] at h
    split at h
    · rcases List.mem_cons.1 h with rfl | h
      · exact .head _
      · exact .tail _ (few_mem ns r p h)
    · exact .tail _ (few_mem ns r p h)
theorem few_len (ns : List ByteArray) : ∀ l : List (ByteArray × Vl), (fewL ns l).length ≤ l.length
  | [] => Nat.le_refl _
  | p :: r => by
    have := few_len ns r
    rw [fewL]
    split <;> simp only [List.length_cons] <;> omega
theorem lastOf_any (n : ByteArray) : ∀ l : List (ByteArray × Vl), lastOf n l = none → hasNm n l = false
  | [], _ => rfl
  | p :: r, h => by
    rw [lastOf] at h
    cases e : lastOf n r with
    | some v => rw [e] at h; cases h
    | none =>
      rw [e] at h
      simp only at h
      have hp : ¬ p.1 = n := fun hp => by rw [if_pos hp] at h; cases h
      unfold hasNm
      simp only [List.any_cons, Bool.or_eq_false_iff]
      exact ⟨by simpa using hp, lastOf_any n r e⟩
theorem lastOf_few (ns : List ByteArray) (n : ByteArray) (hn : n ∈ ns) : ∀ l : List (ByteArray × Vl), lastOf n (fewL ns l) = lastOf n l
  | [] => rfl
  | p :: r => by
    have ih := lastOf_few ns n hn r
    rw [fewL]
    split
    · rw [lastOf, lastOf, ih]
    · rename_i hc
      rw [ih]
      conv => rhs; rw [lastOf]
      cases e : lastOf n r with
      | some v => rfl
      | none =>
        simp only
        have hp : ¬ p.1 = n := fun hp => hc ⟨(inN_iff _ _).2 (hp ▸ hn), by rw [hp]; exact lastOf_any n r e⟩
        rw [if_neg hp]
theorem lastOf_app {α : Type} (n : ByteArray) (b : List (ByteArray × α)) : ∀ a : List (ByteArray × α), lastOf n (a ++ b) = match lastOf n b with
    | some v => some v
    | none => lastOf n a
  | [] => by cases h : lastOf n b <;> simp [lastOf, h]
  | p :: r => by
    rw [List.cons_append, lastOf, lastOf_app n b r]
    cases lastOf n b with
    | some v => rfl
    | none => simp only; rw [lastOf]
theorem lastOf_out {α : Type} (n : ByteArray) (l : List (ByteArray × α)) (h : ∀ p ∈ l, p.1 ≠ n) : lastOf n l = none :=
  lastOf_none n l fun _ hi => h _ (List.getElem_mem hi)
theorem badL_all : ∀ l : List (ByteArray × Vl), (∀ p ∈ l, p.2.good) → badL l = 0
  | [], _ => rfl
  | p :: r, h => by
    have hp : chkZ vD p.2.so p.2.n p.2.s = 0 := h p (.head _)
    rw [badL, if_pos hp]; exact badL_all r fun q hq => h q (.tail _ hq)
theorem badL_good : ∀ l : List (ByteArray × Vl), badL l = 0 → ∀ p ∈ l, p.2.good
  | [], _, p, hp => by cases hp
  | q :: r, h, p, hp => by
    rw [badL] at h
    by_cases hq : chkZ vD q.2.so q.2.n q.2.s = 0
    · rw [if_pos hq] at h
      rcases List.mem_cons.1 hp with rfl | hp
      · exact hq
      · exact badL_good r h p hp
    · rw [if_neg hq] at h; exact absurd h hq
theorem evl_same (x : Ex) (a b : List (ByteArray × Vl)) (hz : chkX x = 0) (ha : badL a = 0) (hb : badL b = 0) (h : ∀ n ∈ nmsX x, lastOf n b = lastOf n a) : evlR x b = evlR x a := by
  obtain ⟨s, v⟩ := names_same (lookS (a.map (·.1)) (a.map (·.2.so))) (lookS (b.map (·.1)) (b.map (·.2.so))) (lookV a) (lookV b) x (chk_wf x 0 hz) (fun n hn => by
    rw [lookE_eq, lookE_eq, h n hn]
    exact ⟨rfl, by unfold lookV; rw [h n hn]⟩)
  unfold evlR
  rw [ha, hb, s, v]
theorem free_few (x : Ex) (env : List (ByteArray × Vl)) (hz : chkX x = 0) (he : badL env = 0) : evlR x (fewL (nmsX x) env) = evlR x env :=
  evl_same x env _ hz he (badL_all _ fun p hp => badL_good env he p (few_mem _ _ p hp)) fun n hn => lastOf_few _ n hn env
theorem free_more (x : Ex) (env other : List (ByteArray × Vl)) (hz : chkX x = 0) (he : badL env = 0) (ho : badL other = 0) (hn : ∀ p ∈ other, p.1 ∉ nmsX x) : evlR x (other ++ fewL (nmsX x) env) = evlR x env := by
  refine evl_same x env _ hz he (badL_all _ fun p hp => ?_) fun n hm => ?_
  · rcases List.mem_append.1 hp with hp | hp
    · exact badL_good other ho p hp
    · exact badL_good env he p (few_mem _ _ p hp)
  · rw [lastOf_app, lastOf_few _ n hm env, lastOf_out n other fun p hp e => hn p hp (e ▸ hm)]
    cases lastOf n env <;> rfl
theorem few_step (ns : List ByteArray) (env : List (ByteArray × Vl)) (k : Nat) (h : k < env.length) : fewL ns (env.drop k) = (if inN ns env[k].1 = true ∧ hasNm env[k].1 (env.drop (k + 1)) = false then [env[k]] else []) ++ fewL ns (env.drop (k + 1)) := by
  rw [List.drop_eq_getElem_cons h, fewL]
  split <;> rfl
theorem few_pre (ns : List ByteArray) (env F r : List (ByteArray × Vl)) (p : ByteArray × Vl) (o : Nat) (h : F ++ [p] ++ r = fewL ns env) (h1 : env.length ≤ 2000000) (h2 : o ≤ 2000000) :
    o + F.length + 1 ≤ maxLen ∧ (o + F.length + 1) * 48 ≤ 140737488355328 ∧ F.length + 1 ≤ maxLen ∧ (F.length + 1) * 48 ≤ 140737488355328 := by
  have h3 := few_len ns env
  rw [← h] at h3
  simp only [List.length_append] at h3
  unfold maxLen
  refine ⟨by omega, by omega, by omega, by omega⟩
def exQ : Ex := ⟨2, ⟨#[113]⟩, 0, 0, ⟨#[]⟩, []⟩
theorem chk_exQ : chkX exQ = 0 := by
  refine (chkX_iff _).2 ⟨?_, ?_⟩
  · rw [wfX_eq]; exact ⟨by decide, fun h => absurd h (by decide), fun k hk => by cases hk⟩
  · rw [sizeX_eq]; simp [exQ]
theorem nms_exQ : nmsX exQ = [⟨#[113]⟩] := by rw [nmsX_eq]; rfl
end Go.Proofs.YtclbillfffpknaaGreatDoor
