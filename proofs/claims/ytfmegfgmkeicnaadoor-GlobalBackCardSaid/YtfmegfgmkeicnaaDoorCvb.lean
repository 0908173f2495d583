/-
  The contracts of parts.Check of types and of global.Check, for every type.
-/
import Derived.Test.YtfmegfgmkeicnaaDoorCxb
import Derived.Test.YtfmegfgmkeicnaaDoorCva
namespace Go.Proofs.YtfmegfgmkeicnaaDoor
open Go.RowKit Go.Shelf
theorem checkC_any (d : Nat) : CCSaid d := by
  induction d using Nat.strongRecOn with
  | _ d ih => exact checkC_step d ih
theorem CKC.new (W : World) : CKC (W.alloc (.cells #[.func (.func 51) #[] #[], .func (.func 52) #[] #[], .int .i64 0] 125)) W.heap.size ((0 : Nat) : Int) :=
  ⟨by simp, by go_cell, by go_cell, by go_cell, by go_simp⟩
/-- what Check says of a type -/
def chkCv (t : Cv) : Int := (chkC t [] 0).1
set_option maxRecDepth 100000 in
set_option maxHeartbeats 2000000 in
theorem partsC_w (d : Nat) (t : Cv) (al : Option Addr) (cl : Nat) (ak : Option Addr) (ck : Nat) (w : World) (hbd : CvBw t) (hla : LA w w.heap.size t.labels al) (hkt : KCv w w.heap.size d t.kids ak) :
    Calls Tryd.prog 50 #[valCv t al cl ak ck, .func (.func 51) #[] #[], .func (.func 52) #[] #[]] w fun e w' => e = .returned (.int .i64 (chkCv t)) ∧ Below w.heap.size w w' := by
  have C1 := hideK (fun (W : World) (pb : Nat) (hb : Below w.heap.size w W) (hp : w.heap.size ≤ pb) (hc : CKC W pb ((0 : Nat) : Int)) => checkC_any d t al cl ak ck [] none 0 0 pb w.heap.size W hbd (NAt.keep hb hla) (KCv.keep hb hkt) (.inl ⟨rfl, rfl, rfl⟩) hp hc (by omega) (by simp))
  have hfin : ∀ (W w1 : World) (pb : Nat), Below w.heap.size w W → w.heap.size ≤ pb → pb < W.heap.size → FR pb W w1 → Below w.heap.size w w1 := fun W w1 pb h1 h2 h3 h4 =>
    h1.trans ⟨h4.os, h4.tape, h4.output, by have := h4.size; have := h1.size; omega, fun k hk => h4.block k (by have := h1.size; omega) (fun e => by injection e with e; omega)⟩
  have HFIN := hideK hfin
  clear hfin hla hkt hbd
  unfold chkCv
  simp only [valCv, List.length_nil] at C1 ⊢
  generalize chkC t [] 0 = r at C1 ⊢
  have hsf : ∀ (a : Addr) (fn : Fn) (x y : Array Value) (m : Mode) (W : World), (store a (.func fn x y) m).run Tryd.prog W = stored Tryd.prog W a (.func fn x y) m := fun a fn x y m W => run_store Tryd.prog W a _ m rfl
  go_enter Tryd.func50, Tryd.ntmps50
  go_wp2_with fail
  clear hsf
  have hcV := CKC.new (w.alloc (.cells #[.int .i64 t.kind, .string t.fm, .string t.tt, .int .i64 t.so, .string t.name, .slice al t.labels.length cl, .slice ak t.kids.length ck] 25))
  have hbV : Below w.heap.size w ((w.alloc (.cells #[.int .i64 t.kind, .string t.fm, .string t.tt, .int .i64 t.so, .string t.name, .slice al t.labels.length cl, .slice ak t.kids.length ck] 25)).alloc (.cells #[.func (.func 51) #[] #[], .func (.func 52) #[] #[], .int .i64 0] 125)) := ((Below.refl _ _).alloc (Nat.le_refl _) _).alloc (by simp) _
  rw [World.size_alloc] at hcV
  have hvs := hcV.lt
  generalize (w.alloc (.cells #[.int .i64 t.kind, .string t.fm, .string t.tt, .int .i64 t.so, .string t.name, .slice al t.labels.length cl, .slice ak t.kids.length ck] 25)).alloc (.cells #[.func (.func 51) #[] #[], .func (.func 52) #[] #[], .int .i64 0] 125) = V at *
  refine (C1.out V _ hbV (by omega) hcV).mono ?_
  rintro e w1 ⟨rfl, _, hfr⟩
  have HB := hideK (HFIN.out V w1 _ hbV (by omega) hvs hfr)
  clear hbV hvs hcV hfr
  go_wp2_with fail
  go_ret
  exact ⟨rfl, HB.out⟩
theorem globalCheck_w (d : Nat) (t : Cv) (al : Option Addr) (cl : Nat) (ak : Option Addr) (ck : Nat) (w : World) (hbd : CvBw t) (hla : LA w w.heap.size t.labels al) (hkt : KCv w w.heap.size d t.kids ak) :
    Calls Tryd.prog 22 #[valCv t al cl ak ck] w fun e w' => e = .returned (.int .i64 (chkCv t)) ∧ Below w.heap.size w w' := by
  have hb0 : Below w.heap.size w (w.alloc (.cells #[.int .i64 t.kind, .string t.fm, .string t.tt, .int .i64 t.so, .string t.name, .slice al t.labels.length cl, .slice ak t.kids.length ck] 25)) := (Below.refl _ _).alloc (Nat.le_refl _) _
  have c := partsC_w d t al cl ak ck _ hbd (NAt.mono hb0.size (NAt.keep hb0 hla)) (KCv.mono hb0.size (KCv.keep hb0 hkt))
  simp only [valCv] at c ⊢
  go_enter Tryd.func22, Tryd.ntmps22
  go_wp2_with fail
  refine c.mono ?_
  rintro e w1 ⟨rfl, hb⟩
  have HB := hideK (hb0.trans (hb.mono hb0.size))
  clear hb0 hb hla hkt c
  go_wp2_with fail
  go_ret
  exact ⟨rfl, HB.out⟩
theorem globalCheck_any (d : Nat) (t : Cv) (al : Option Addr) (cl : Nat) (ak : Option Addr) (ck : Nat) (w : World) (hbd : CvBd t cl ck) (hla : LA w w.heap.size t.labels al) (hkt : KCv w w.heap.size d t.kids ak) :
    Calls Tryd.prog 22 #[valCv t al cl ak ck] w fun e w' => e = .returned (.int .i64 (chkCv t)) ∧ Below w.heap.size w w' := globalCheck_w d t al cl ak ck w hbd.w hla hkt
end Go.Proofs.YtfmegfgmkeicnaaDoor
/-
  PLAIN: what is written of a right conversation is read as that conversation.
-/
namespace Go.Proofs.YtfmegfgmkeicnaaDoor
open Go.RowKit Go.Shelf

theorem needC (c : UInt8) (r : List UInt8) : need c (c :: r) = .ok (skB r) := by
  unfold need
  rw [if_pos List.head?_cons]
  rfl
theorem noLowC (c : UInt8) (h : isLow c = false) (r : List UInt8) : noLow (c :: r) := by
  intro d hd
  simp at hd
  subst hd
  exact h
theorem headC (c d : UInt8) (h : c ≠ 32) (hd : c ≠ d) (r : List UInt8) : (skB (c :: r)).head? ≠ some d := by
  rw [skB_cons c r h]
  simpa using hd
/-- a reading that reads what is written -/
def BacksCv (R : List UInt8 → RdCv) (t : Cv) : Prop := ∀ r, noLow r → (skB r).head? ≠ some 62 → R (skB (wrCv t ++ r)) = some (t, skB r)
theorem altsCv_back (R : List UInt8 → RdCv) (a b : ByteArray) : ∀ (m : Nat) (l : ByteArray) (t : Cv) (ls ls' : List ByteArray) (ks ks' : List Cv) (r : List UInt8), ls'.length < m → ks'.length = ls'.length → labsOK (ls ++ l :: ls') = true → (∀ x ∈ t :: ks', BacksCv R x) →
    rdCvAlts R a b m ls ks (skB (l.data.toList ++ ([58] ++ (wrCv t ++ (choL [44] (ls'.zip (ks'.map wrCv)) ++ ([125] ++ r)))))) = some (⟨6, a, b, 0, ⟨#[]⟩, ls ++ l :: ls', ks ++ t :: ks'⟩, skB r) := by
  intro m
  induction m with
  | zero => intro l t ls ls' ks ks' r h; omega
  | succ m ih =>
    intro l t ls ls' ks ks' r hm hk hl hb
    have hn : isNm l.data.toList = true := labs_nm _ hl l (by simp)
    have hlab : labsOK (ls ++ [l]) = true := labs_take _ ls' (by simpa using hl) (by simp)
    unfold rdCvAlts
    rw [List.singleton_append, rdLab_at ls l _ hlab hn (noLowC 58 (by decide) _)]
    simp only [List.singleton_append]
    rw [skB_cons 58 _ (by decide), needC]
    simp only
    match ls', ks', hk with
    | [], [], _ =>
      rw [show choL [44] (([] : List ByteArray).zip (([] : List Cv).map wrCv)) ++ (125 :: r) = 125 :: r from rfl, hb t (by simp) _ (noLowC 125 (by decide) r) (headC 125 62 (by decide) (by decide) r)]
      simp only
      rw [skB_cons 125 _ (by decide), if_pos List.head?_cons]
      rfl
    | l2 :: ls2, t2 :: ks2, hk =>
      have e1 : choL [44] ((l2 :: ls2).zip ((t2 :: ks2).map wrCv)) ++ (125 :: r) = 44 :: (l2.data.toList ++ ([58] ++ (wrCv t2 ++ (choL [44] (ls2.zip (ks2.map wrCv)) ++ ([125] ++ r))))) := by
        rw [List.map_cons, List.zip_cons_cons, choL]
        simp only [List.append_assoc, List.cons_append, List.nil_append]
      rw [e1, hb t (by simp) _ (noLowC 44 (by decide) _) (headC 44 62 (by decide) (by decide) _)]
      simp only
      rw [skB_cons 44 _ (by decide), if_neg (by simp), needC]
      simp only
      rw [ih l2 t2 (ls ++ [l]) ls2 (ks ++ [t]) ks2 r (by simp at hm; omega) (by simpa using hk) (by simpa using hl) (fun x hx => hb x (.tail _ hx))]
      simp
theorem rlw {a : ByteArray} (h : isRl a.data.toList = true) (r : List UInt8) (hr : noLow r) : skB (a.data.toList ++ r) = a.data.toList ++ r ∧ wd (a.data.toList ++ r) = a.data.toList :=
  word_at _ _ (rl_low h).1 (by rw [(rl_low h).2]; exact Nat.le_refl _) hr
theorem drop_len (l r : List UInt8) : (l ++ r).drop l.length = r := List.drop_left
/-- two roles at the head -/
theorem rdCv_roles (f : Nat) (a b : ByteArray) (h : rls a b) (r : List UInt8) (hr : noLow r) : rdCv (f + 1) (skB (a.data.toList ++ (62 :: (b.data.toList ++ r)))) =
    if (skB r).head? = some 58 then rdCvSend (rdCv f) a b (skB ((skB r).drop 1)) else (match need 123 (skB r) with
      | .error _ => none
      | .ok l2 => rdCvAlts (rdCv f) a b 7 [] [] l2) := by
  obtain ⟨ha, hb, hab⟩ := h
  obtain ⟨e1, e2⟩ := rlw ha (62 :: (b.data.toList ++ r)) (noLowC 62 (by decide) _)
  obtain ⟨e3, e4⟩ := rlw hb r hr
  have hl := (rl_low ha).2
  rw [e1]
  unfold rdCv
  rw [e2, if_neg (fun q => by rw [q] at hl; simp at hl), if_neg (fun q => by rw [q] at hl; simp at hl)]
  unfold rdCvName
  rw [e2, drop_len]
  simp only
  rw [skB_cons 62 _ (by decide), if_pos List.head?_cons, if_pos ha, bs_of]
  unfold rdCvTalk
  rw [List.drop_one, List.tail_cons, e3, e4, bs_of, if_pos ⟨hb, fun q => hab q.symm⟩, drop_len]
  rfl
theorem wrCv_back : ∀ t : Cv, wfCv t → ∀ fuel, sizeCv t < fuel → BacksCv (rdCv fuel) t := by
  apply cvInd
  intro t ih hw fuel hf
  obtain ⟨hp, hk⟩ := (wfCv_eq t).1 hw
  obtain ⟨f, rfl⟩ : ∃ f, fuel = f + 1 := ⟨fuel - 1, by omega⟩
  have hkid : ∀ k ∈ t.kids, BacksCv (rdCv f) k := fun k hm => ih k hm (hk k hm) f (by have := sizeCv_kid hm; omega)
  clear ih hk hf hw
  intro r hr hr2
  rcases hp with rfl | ⟨nm, hv, rfl⟩ | ⟨nm, k, hv, rfl⟩ | ⟨a, b, so, k, h1, hso, rfl⟩ | ⟨a, b, ls, ks, h1, hls, hkl, rfl⟩
  · rw [wc_end]
    obtain ⟨e1, e2⟩ := word_at [101, 110, 100] r (by decide) (by simp) hr
    rw [e1]
    unfold rdCv
    rw [e2, if_pos rfl]
    rfl
  · rw [wc_var]
    obtain ⟨hn, hne, hnr⟩ := vr_nm _ hv
    have hlow := nm_low _ hn
    obtain ⟨e1, e2⟩ := word_at nm.data.toList r hlow.1 hlow.2 hr
    have e3 := rdVar_at nm r hv hr
    rw [e1] at e3 ⊢
    unfold rdCv
    rw [e2, if_neg hne, if_neg hnr]
    unfold rdCvName
    rw [e2, drop_len, e3]
    simp only
    rw [if_neg hr2]
  · rw [wc_rec]
    obtain ⟨e1, e2⟩ := word_at [114, 101, 99] (32 :: (nm.data.toList ++ ([46] ++ (wrCv k ++ r)))) (by decide) (by simp) (noLow_blank _)
    rw [show [114, 101, 99, 32] ++ nm.data.toList ++ [46] ++ wrCv k ++ r = [114, 101, 99] ++ (32 :: (nm.data.toList ++ ([46] ++ (wrCv k ++ r)))) by simp, e1]
    unfold rdCv
    rw [e2, if_neg (by decide), if_pos rfl]
    unfold rdCvRec
    have e3 : List.drop 3 ([114, 101, 99] ++ (32 :: (nm.data.toList ++ ([46] ++ (wrCv k ++ r)))) : List UInt8) = List.replicate 1 32 ++ (nm.data.toList ++ ([46] ++ (wrCv k ++ r))) := rfl
    rw [e3, skB_rep, List.singleton_append, rdVar_at nm _ hv (noLowC 46 (by decide) _)]
    simp only
    rw [skB_cons 46 _ (by decide), needC]
    simp only
    rw [hkid k (by simp) r hr hr2]
  · rw [wc_send]
    rw [show a.data.toList ++ [62] ++ b.data.toList ++ [58] ++ (swB so).data.toList ++ [46] ++ wrCv k ++ r = a.data.toList ++ (62 :: (b.data.toList ++ (58 :: ((swB so).data.toList ++ (46 :: (wrCv k ++ r)))))) by simp,
      rdCv_roles f a b h1 _ (noLowC 58 (by decide) _), skB_cons 58 _ (by decide), if_pos List.head?_cons, List.drop_one, List.tail_cons]
    unfold rdCvSend
    rw [rdSort_at so _ hso (noLowC 46 (by decide) _)]
    simp only
    rw [skB_cons 46 _ (by decide), needC]
    simp only
    rw [hkid k (by simp) r hr hr2]
  · rw [wc_pick]
    have hl1 : 1 ≤ ls.length ∧ ls.length ≤ 6 := by
      unfold labsOK at hls
      simp only [Bool.and_eq_true, decide_eq_true_eq] at hls
      exact hls.1
    match ls, ks, hl1, hkl, hls, hkid with
    | [], _, hl1, _, _, _ => simp at hl1
    | _ :: _, [], _, hkl, _, _ => simp at hkl
    | l :: ls', t :: ks', hl1, hkl, hls, hkid =>
      rw [List.map_cons, List.zip_cons_cons, choL]
      rw [show a.data.toList ++ [62] ++ b.data.toList ++ [123] ++ l.data.toList ++ [58] ++ wrCv t ++ choL [44] (ls'.zip (ks'.map wrCv)) ++ [125] ++ r = a.data.toList ++ (62 :: (b.data.toList ++ (123 :: (l.data.toList ++ ([58] ++ (wrCv t ++ (choL [44] (ls'.zip (ks'.map wrCv)) ++ ([125] ++ r)))))))) by simp,
        rdCv_roles f a b h1 _ (noLowC 123 (by decide) _), skB_cons 123 _ (by decide), if_neg (by simp), needC]
      simp only
      rw [altsCv_back (rdCv f) a b 7 l t [] ls' [] ks' r (by simp at hl1; omega) (by simpa using hkl) (by simpa using hls) (fun x hx => hkid x (by simpa using hx))]
      rfl
end Go.Proofs.YtfmegfgmkeicnaaDoor
