/-
  Plain: Eval of what Put makes is Eval with the name's value behind the others, for every right expression and every environment.
-/
import Derived.Test.YtclbillfffpknaaGreatDoorPa
import Derived.Test.YtclbillfffpknaaGreatDoorXv
namespace Go.Proofs.YtclbillfffpknaaGreatDoor
open Go.RowKit

theorem lastOf_snoc {α : Type} (n : ByteArray) (p : ByteArray × α) : ∀ l : List (ByteArray × α), lastOf n (l ++ [p]) = if p.1 = n then some p.2 else lastOf n l
  | [] => by simp [lastOf]
  | q :: r => by
    rw [List.cons_append, lastOf, lastOf_snoc n p r]
    by_cases h : p.1 = n
    · rw [if_pos h]; simp only [if_pos h]
    · rw [if_neg h]; simp only [if_neg h]; rw [lastOf]
theorem lookV_snoc (bs : List (ByteArray × Vl)) (nm : ByteArray) (v : Vl) (n : ByteArray) : lookV (bs ++ [(nm, v)]) n = if nm = n then v else lookV bs n := by
  unfold lookV
  rw [lastOf_snoc]
  by_cases h : nm = n
  · simp only [if_pos h]
  · simp only [if_neg h]
theorem lookE_eq (bs : List (ByteArray × Vl)) (n : ByteArray) : lookS (bs.map (·.1)) (bs.map (·.2.so)) n = match lastOf n bs with
    | some v => (v.so, 0)
    | none => (0, 4) := by
  unfold lookS
  rw [lastOf_zip]
  cases lastOf n bs <;> rfl
theorem lookE_snoc (bs : List (ByteArray × Vl)) (nm : ByteArray) (v : Vl) (n : ByteArray) : lookS ((bs ++ [(nm, v)]).map (·.1)) ((bs ++ [(nm, v)]).map (·.2.so)) n = if nm = n then (v.so, 0) else lookS (bs.map (·.1)) (bs.map (·.2.so)) n := by
  rw [lookE_eq, lookE_eq, lastOf_snoc]
  by_cases h : nm = n
  · simp only [if_pos h]
  · simp only [if_neg h]
theorem badL_app (a : List (ByteArray × Vl)) : ∀ b : List (ByteArray × Vl), badL (a ++ b) = if badL a = 0 then badL b else badL a := by
  induction a with
  | nil => intro b; simp [badL]
  | cons p r ih =>
    intro b
    simp only [List.cons_append, badL]
    by_cases h : chkZ vD p.2.so p.2.n p.2.s = 0
    · simp only [if_pos h]; exact ih b
    · simp only [if_neg h]
theorem badL_snoc (bs : List (ByteArray × Vl)) (nm : ByteArray) (v : Vl) (h : v.good) : badL (bs ++ [(nm, v)]) = badL bs := by
  rw [badL_app]
  have h0 : badL [(nm, v)] = 0 := by
    have : chkZ vD v.so v.n v.s = 0 := h
    simp [badL, this]
  by_cases hb : badL bs = 0
  · rw [if_pos hb, h0, hb]
  · rw [if_neg hb]
theorem put_eval (nm : ByteArray) (v : Vl) (hv : v.good) (x : Ex) (bs : List (ByteArray × Vl)) (h : chkX x = 0) : evlR (putX nm v x) bs = evlR x (bs ++ [(nm, v)]) := by
  have h2 := put_chk nm v hv x h
  obtain ⟨s, w⟩ := put_same nm v (lookS (bs.map (·.1)) (bs.map (·.2.so))) (lookS ((bs ++ [(nm, v)]).map (·.1)) ((bs ++ [(nm, v)]).map (·.2.so))) (lookV bs) (lookV (bs ++ [(nm, v)]))
    (by rw [lookE_snoc, if_pos rfl]) (by rw [lookV_snoc, if_pos rfl]) (fun n hn => by rw [lookE_snoc, if_neg (fun e => hn e.symm)]) (fun n hn => by rw [lookV_snoc, if_neg (fun e => hn e.symm)]) x (chk_wf x 0 h)
  unfold evlR
  rw [h, h2, badL_snoc bs nm v hv, s, w]
def exX : Ex := ⟨2, ⟨#[120]⟩, 0, 0, ⟨#[]⟩, []⟩
theorem chk_exX : chkX exX = 0 := by
  refine (chkX_iff _).2 ⟨?_, ?_⟩
  · rw [wfX_eq]; exact ⟨by decide, fun h => absurd h (by decide), fun k hk => by cases hk⟩
  · rw [sizeX_eq]; simp [exX]
theorem nms_exX : nmsX exX = [⟨#[120]⟩] := by rw [nmsX_eq]; rfl
end Go.Proofs.YtclbillfffpknaaGreatDoor
