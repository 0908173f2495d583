/-
  The contracts of parts.Check of types and of types.Check, for every type.
-/
import Derived.Test.YtfmegfgmkeicnaaDoorKdw
namespace Go.Proofs.YtfmegfgmkeicnaaDoor
open Go.RowKit Go.Shelf
theorem checkP_any (d : Nat) : CPSaid d := by
  induction d using Nat.strongRecOn with
  | _ d ih => exact checkP_step d ih
theorem CKT.new (W : World) : CKT (W.alloc (.cells #[.func (.func 75) #[] #[], .func (.func 76) #[] #[], .int .i64 0] 144)) W.heap.size ((0 : Nat) : Int) :=
  ⟨by simp, by go_cell, by go_cell, by go_cell, by go_simp⟩
/-- what Check says of a type -/
def chkTy (t : Ty) : Int := (chkT t [] 0).1
set_option maxRecDepth 100000 in
set_option maxHeartbeats 2000000 in
theorem partsCheck_w (d : Nat) (t : Ty) (al : Option Addr) (cl : Nat) (ak : Option Addr) (ck : Nat) (w : World) (hbd : TyBw t) (hla : LA w w.heap.size t.labels al) (hkt : KT w w.heap.size d t.kids ak) :
    Calls Tryd.prog 74 #[tyVal t al cl ak ck, .func (.func 75) #[] #[], .func (.func 76) #[] #[]] w fun e w' => e = .returned (.int .i64 (chkTy t)) ∧ Below w.heap.size w w' := by
  have C1 := hideK (fun (W : World) (pb : Nat) (hb : Below w.heap.size w W) (hp : w.heap.size ≤ pb) (hc : CKT W pb ((0 : Nat) : Int)) => checkP_any d t al cl ak ck [] none 0 0 pb w.heap.size W hbd (NAt.keep hb hla) (KT.keep hb hkt) (.inl ⟨rfl, rfl, rfl⟩) hp hc (by omega) (by simp))
  have hfin : ∀ (W w1 : World) (pb : Nat), Below w.heap.size w W → w.heap.size ≤ pb → pb < W.heap.size → FR pb W w1 → Below w.heap.size w w1 := fun W w1 pb h1 h2 h3 h4 =>
    h1.trans ⟨h4.os, h4.tape, h4.output, by have := h4.size; have := h1.size; omega, fun k hk => h4.block k (by have := h1.size; omega) (fun e => by injection e with e; omega)⟩
  have HFIN := hideK hfin
  clear hfin hla hkt hbd
  unfold chkTy
  simp only [tyVal, List.length_nil] at C1 ⊢
  generalize chkT t [] 0 = r at C1 ⊢
  have hsf : ∀ (a : Addr) (fn : Fn) (x y : Array Value) (m : Mode) (W : World), (store a (.func fn x y) m).run Tryd.prog W = stored Tryd.prog W a (.func fn x y) m := fun a fn x y m W => run_store Tryd.prog W a _ m rfl
  go_enter Tryd.func74, Tryd.ntmps74
  go_wp2_with fail
  clear hsf
  have hcV := CKT.new (w.alloc (.cells #[.int .i64 t.kind, .int .i64 t.so, .string t.name, .slice al t.labels.length cl, .slice ak t.kids.length ck] 45))
  have hbV : Below w.heap.size w ((w.alloc (.cells #[.int .i64 t.kind, .int .i64 t.so, .string t.name, .slice al t.labels.length cl, .slice ak t.kids.length ck] 45)).alloc (.cells #[.func (.func 75) #[] #[], .func (.func 76) #[] #[], .int .i64 0] 144)) := ((Below.refl _ _).alloc (Nat.le_refl _) _).alloc (by simp) _
  rw [World.size_alloc] at hcV
  have hvs := hcV.lt
  generalize (w.alloc (.cells #[.int .i64 t.kind, .int .i64 t.so, .string t.name, .slice al t.labels.length cl, .slice ak t.kids.length ck] 45)).alloc (.cells #[.func (.func 75) #[] #[], .func (.func 76) #[] #[], .int .i64 0] 144) = V at *
  refine (C1.out V _ hbV (by omega) hcV).mono ?_
  rintro e w1 ⟨rfl, _, hfr⟩
  have HB := hideK (HFIN.out V w1 _ hbV (by omega) hvs hfr)
  clear hbV hvs hcV hfr
  go_wp2_with fail
  go_ret
  exact ⟨rfl, HB.out⟩
theorem typesCheck_w (d : Nat) (t : Ty) (al : Option Addr) (cl : Nat) (ak : Option Addr) (ck : Nat) (w : World) (hbd : TyBw t) (hla : LA w w.heap.size t.labels al) (hkt : KT w w.heap.size d t.kids ak) :
    Calls Tryd.prog 38 #[tyVal t al cl ak ck] w fun e w' => e = .returned (.int .i64 (chkTy t)) ∧ Below w.heap.size w w' := by
  have hb0 : Below w.heap.size w (w.alloc (.cells #[.int .i64 t.kind, .int .i64 t.so, .string t.name, .slice al t.labels.length cl, .slice ak t.kids.length ck] 45)) := (Below.refl _ _).alloc (Nat.le_refl _) _
  have c := partsCheck_w d t al cl ak ck _ hbd (NAt.mono hb0.size (NAt.keep hb0 hla)) (KT.mono hb0.size (KT.keep hb0 hkt))
  simp only [tyVal] at c ⊢
  go_enter Tryd.func38, Tryd.ntmps38
  go_wp2_with fail
  refine c.mono ?_
  rintro e w1 ⟨rfl, hb⟩
  have HB := hideK (hb0.trans (hb.mono hb0.size))
  clear hb0 hb hla hkt c
  go_wp2_with fail
  go_ret
  exact ⟨rfl, HB.out⟩
theorem typesCheck_any (d : Nat) (t : Ty) (al : Option Addr) (cl : Nat) (ak : Option Addr) (ck : Nat) (w : World) (hbd : TyBd t cl ck) (hla : LA w w.heap.size t.labels al) (hkt : KT w w.heap.size d t.kids ak) :
    Calls Tryd.prog 38 #[tyVal t al cl ak ck] w fun e w' => e = .returned (.int .i64 (chkTy t)) ∧ Below w.heap.size w w' := typesCheck_w d t al cl ak ck w hbd.w hla hkt
end Go.Proofs.YtfmegfgmkeicnaaDoor
/-
  What Check lets by has at most 60 parts, each right; the contracts of types.size and types.Size, for every type.
-/
namespace Go.Proofs.YtfmegfgmkeicnaaDoor
open Go.RowKit Go.Shelf

/-- right in all its parts -/
def wfT : Ty → Prop
  | ⟨kd, so, nm, ls, ks⟩ => partT ⟨kd, so, nm, ls, ks⟩ = true ∧ ∀ k ∈ ks, wfT k
theorem wfT_eq (t : Ty) : wfT t ↔ partT t = true ∧ ∀ k ∈ t.kids, wfT k := by cases t; rw [wfT]
theorem chkTL_all (ar : List ByteArray) (ks : List Ty) : ∀ (a : Int × Nat), (∀ k ∈ ks, ∀ ar c, (chkT k ar c).1 = 0 → wfT k ∧ (chkT k ar c).2 = c + sizeT k) → (chkTL ar ks a).1 = 0 → (∀ k ∈ ks, wfT k) ∧ (chkTL ar ks a).2 = a.2 + (ks.map sizeT).sum := by
  induction ks with
  | nil => intro a _ _; exact ⟨fun k hk => (by cases hk), rfl⟩
  | cons x ks ih =>
    intro a hk h0
    rw [chkTL_cons] at h0 ⊢
    by_cases ha : a.1 ≠ 0
    · rw [if_pos ha, chkTL_bad _ _ _ ha] at h0; exact absurd h0 ha
    · rw [if_neg ha] at h0 ⊢
      by_cases hx : (chkT x ar a.2).1 = 0
      · have h1 := hk x (.head _) ar a.2 hx
        have h2 := ih _ (fun k hm => hk k (.tail _ hm)) h0
        refine ⟨fun k hm => ?_, ?_⟩
        · rcases List.mem_cons.1 hm with rfl | hm
          · exact h1.1
          · exact h2.1 k hm
        · rw [h2.2, h1.2]; simp only [List.map_cons, List.sum_cons]; omega
      · rw [chkTL_bad _ _ _ hx] at h0; exact absurd h0 hx
theorem chkT_all : ∀ t : Ty, ∀ ar c, (chkT t ar c).1 = 0 → wfT t ∧ (chkT t ar c).2 = c + sizeT t := by
  apply tyInd
  intro t ih ar c h
  have hs := sizeT_eq t
  rw [chkT_eq] at h ⊢
  by_cases h1 : 60 < c + 1
  · rw [if_pos h1] at h; exact absurd h (by simp)
  rw [if_neg h1] at h ⊢
  by_cases h2 : partT t = false
  · rw [if_pos h2] at h; exact absurd h (by simp)
  rw [if_neg h2] at h ⊢
  by_cases h3 : t.kind = 9 ∧ hasN ar t.name = false
  · rw [if_pos h3] at h; exact absurd h (by simp)
  rw [if_neg h3] at h ⊢
  by_cases h4 : t.kind = 8 ∧ idleN 65536 t = true
  · rw [if_pos h4] at h; exact absurd h (by simp)
  rw [if_neg h4] at h ⊢
  have := chkTL_all _ t.kids (0, c + 1) ih h
  refine ⟨(wfT_eq t).2 ⟨by simpa using h2, this.1⟩, ?_⟩
  rw [this.2, hs]; simp only; omega
theorem chkTy_good (t : Ty) (h : chkTy t = 0) : wfT t ∧ sizeT t ≤ 60 := by
  have h1 := chkT_all t [] 0 h
  have h2 := chkT_cnt t [] 0 (by omega) h
  exact ⟨h1.1, by omega⟩

def SZSaid (d : Nat) : Prop := ∀ (t : Ty) (al : Option Addr) (cl : Nat) (ak : Option Addr) (ck B : Nat) (w : World), TyBd t cl ck → KT w B d t.kids ak → sizeT t ≤ 1000000000 → B ≤ w.heap.size →
  Calls Tryd.prog 43 #[tyVal t al cl ak ck] w fun e w' => e = .returned (.int .i64 (sizeT t : Int)) ∧ Below w.heap.size w w'
theorem sum_take_le (ks : List Ty) (k : Nat) : ((ks.take k).map sizeT).sum ≤ (ks.map sizeT).sum := by
  conv => rhs; rw [← List.take_append_drop k ks]
  rw [List.map_append, List.sum_append]; omega

set_option maxRecDepth 100000 in
set_option maxHeartbeats 2000000 in
theorem size_step (d : Nat) (ih : ∀ d', d' < d → SZSaid d') : SZSaid d := by
  intro t al cl ak ck B w hbd hkt hsz hB
  have hs := sizeT_eq t
  have hA : Below w.heap.size w (w.alloc (.cells #[.int .i64 t.kind, .int .i64 t.so, .string t.name, .slice al t.labels.length cl, .slice ak t.kids.length ck] 45)) := (Below.refl _ _).alloc (Nat.le_refl _) _
  have hkl : (t.kids.length : Int) ≤ 9223372036854775807 := by have := hbd.kids; have := hbd.ck; omega
  have HA := hideK hA
  have HKT := hideK hkt
  have HS := hideK hs
  have HSZ := hideK hsz
  simp only [tyVal]
  clear hs hsz hkt hA hbd
  go_enter Tryd.func43, Tryd.ntmps43
  go_wp2_with fail
  go_loopw [3, 9] (fun v i wr => ∃ k : Nat, k ≤ t.kids.length ∧ i = .int .i64 (k : Int) ∧ v = .int .i64 ((1 + ((t.kids.take k).map sizeT).sum : Nat) : Int) ∧ Below w.heap.size w wr) (fun _ i _ => t.kids.length - (intOf i).toNat)
  case atStart => exact ⟨0, Nat.zero_le _, rfl, by simp, HA.out⟩
  case round =>
    obtain ⟨k, hk, rfl, rfl, hb⟩ := hrel
    have hle := sum_take_le t.kids k
    have HB := hideK hb
    have hszw := hb.size
    by_cases hlt : k < t.kids.length
    · have hltz : (k : Int) < (t.kids.length : Int) := by omega
      obtain ⟨d', rfl⟩ : ∃ d', d = d' + 1 := by
        cases d with
        | zero => have := HKT.out; simp only [KT] at this; rw [this] at hlt; simp at hlt
        | succ d' => exact ⟨d', rfl⟩
      have hkt := HKT.out
      rcases hkt with hkt | ⟨b, o, rfl, hbB, hkt⟩
      · rw [hkt] at hlt; simp at hlt
      · obtain ⟨al', cl', ak', ck', hty, htb, _, htk⟩ := hkt k hlt
        obtain ⟨y0, y1, y2, y3, y4⟩ := hty.keep hb (by omega)
        have hsn : ((t.kids.take (k + 1)).map sizeT).sum = ((t.kids.take k).map sizeT).sum + sizeT t.kids[k] := by
          rw [List.take_succ_eq_append_getElem hlt, List.map_append, List.sum_append]; simp
        have hle2 := sum_take_le t.kids (k + 1)
        have hA2 := hb.alloc hb.size (.cells #[.int .i64 t.kids[k].kind, .int .i64 t.kids[k].so, .string t.kids[k].name, .slice al' t.kids[k].labels.length cl', .slice ak' t.kids[k].kids.length ck'] 45)
        have hs := HS.out
        have hz := HSZ.out
        have cR := ih d' (by omega) t.kids[k] al' cl' ak' ck' B (wr.alloc (.cells #[.int .i64 t.kids[k].kind, .int .i64 t.kids[k].so, .string t.kids[k].name, .slice al' t.kids[k].labels.length cl', .slice ak' t.kids[k].kids.length ck'] 45)) htb (KT.keep (hA2.mono hB) htk) (by omega) (Nat.le_trans hB hA2.size)
        simp only [tyVal] at cR
        generalize ((t.kids.take k).map sizeT).sum = m at *
        generalize sizeT t.kids[k] = n at *
        have hmn : ((1 + m : Nat) : Int) + (n : Int) ≤ 1000000000 := by omega
        have hm0 : (0 : Int) ≤ ((1 + m : Nat) : Int) := by omega
        have HSN := hideK hsn
        have HA2 := hideK hA2
        clear hkt hty htb htk hsn hle hle2 hs hz hb hA2 ih HKT HS HSZ
        go_wp2_with fail
        refine cR.mono ?_
        rintro e w2 ⟨rfl, hb2⟩
        go_wp2_with fail
        go_roundw
        case rel =>
          refine ⟨k + 1, by omega, by go_num, ?_, HA2.out.trans (hb2.mono HA2.out.size)⟩
          rw [HSN.out]
          congr 1
          omega
        case measure => simp [intOf]; omega
    · have hltz : ¬ (k : Int) < (t.kids.length : Int) := by omega
      have hfin : t.kids.take k = t.kids := List.take_of_length_le (by omega)
      have HF : Hid (1 + ((t.kids.take k).map sizeT).sum = sizeT t) := by show _ = _; rw [hfin]; exact HS.out.symm
      clear hfin hle hb HKT HS HSZ ih
      generalize ((t.kids.take k).map sizeT).sum = m at *
      go_wp2_with fail
      go_ret
      exact ⟨by rw [← HF.out]; rfl, HB.out⟩
theorem size_any (d : Nat) : SZSaid d := by
  induction d using Nat.strongRecOn with
  | _ d ih => exact size_step d ih
/-- what Size tells -/
def szR (t : Ty) : Int × Int := if chkTy t = 0 then ((sizeT t : Int), 0) else (0, chkTy t)
set_option maxHeartbeats 1000000 in
theorem typesSize_any (d : Nat) (t : Ty) (al : Option Addr) (cl : Nat) (ak : Option Addr) (ck : Nat) (w : World) (hbd : TyBd t cl ck) (hla : LA w w.heap.size t.labels al) (hkt : KT w w.heap.size d t.kids ak) :
    Calls Tryd.prog 18 #[tyVal t al cl ak ck] w fun e w' => e = .returned (.tuple #[.int .i64 (szR t).1, .int .i64 (szR t).2]) ∧ Below w.heap.size w w' := by
  have hA : Below w.heap.size w (w.alloc (.cells #[.int .i64 t.kind, .int .i64 t.so, .string t.name, .slice al t.labels.length cl, .slice ak t.kids.length ck] 45)) := (Below.refl _ _).alloc (Nat.le_refl _) _
  have cC := typesCheck_any d t al cl ak ck _ hbd (NAt.mono hA.size (NAt.keep hA hla)) (KT.mono hA.size (KT.keep hA hkt))
  have HA := hideK hA
  unfold szR
  by_cases hz : chkTy t = 0
  · rw [if_pos hz]
    rw [hz] at cC
    obtain ⟨hw, hsz⟩ := chkTy_good t hz
    have CW := hideK (fun (W : World) (hb : Below w.heap.size w W) => size_any d t al cl ak ck w.heap.size W hbd (KT.keep hb hkt) (by omega) hb.size)
    simp only [tyVal] at cC CW ⊢
    clear hbd hla hkt hz hw hsz hA
    go_enter Tryd.func18, Tryd.ntmps18
    go_wp2_with fail
    refine cC.mono ?_
    rintro e w1 ⟨rfl, hb1⟩
    obtain ⟨x0, x1, x2, x3, x4, hbw⟩ := keep5 hb1
    have cW := CW.out w1 hbw
    have HB := hideK hbw
    clear cC CW hbw
    go_wp2_with fail
    refine cW.mono ?_
    rintro e w2 ⟨rfl, hb2⟩
    go_wp2_with fail
    go_ret2
    exact ⟨rfl, HB.out.trans (hb2.mono HB.out.size)⟩
  · rw [if_neg hz]
    have hzb : (chkTy t != 0) = true := by simpa using hz
    simp only [tyVal] at cC ⊢
    generalize chkTy t = z at cC hzb ⊢
    clear hbd hla hkt hz hA
    go_enter Tryd.func18, Tryd.ntmps18
    go_wp2_with fail
    refine cC.mono ?_
    rintro e w1 ⟨rfl, hb1⟩
    obtain ⟨x0, x1, x2, x3, x4, hbw⟩ := keep5 hb1
    clear cC
    go_wp2_with fail
    go_ret2
    exact ⟨rfl, hbw⟩
end Go.Proofs.YtfmegfgmkeicnaaDoor
