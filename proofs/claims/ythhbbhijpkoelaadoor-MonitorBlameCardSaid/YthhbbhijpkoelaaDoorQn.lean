/-
  The second half of a round of duetkeep.MonitorBlame: what is done at the monitor, kind by kind.
-/
import Derived.Test.YthhbbhijpkoelaaDoorQf
namespace Go.Proofs.YthhbbhijpkoelaaDoor
open Go.RowKit Go.Shelf

set_option maxRecDepth 100000 in
set_option maxHeartbeats 200000000 in
theorem blame_rest : blame_cut.2.1 := by
  intro ds dt s t pal pcl pak pck al cl ak ck zs cp w hzl HT HZR iq0 V w1 g0 ag0 cg0 mb0 B0 w2 w3 g h w4 ag cg mb iq1 iq2 wr u6 u13 u14 iq3 iq4 u17 u18 u19 u20 u21 u22 u23 u24 iq5 iq6 iq7 iq8 iq9 iq10 iq11 iq12 iq13 iq14 iq15 iq16 iq17 iq18 iq19 iq20 iq21 u87 u88 iq22 iq23 iq24 iq25 iq26 iq27 iq28 iq29 iq30 iq31 iq32 iq33 iq34 iq35 iq36 iq37 iq38 u106 iq39 iq40 iq41 iq42 iq43 iq44 u113 iq45 iq46 iq47 iq48 iq49 iq50 u120 iq51 iq52 iq53 iq54 iq55 iq56 u127 iq57 iq58 iq59 iq60 iq61 iq62 iq63 iq64 iq65 iq66 iq67 iq68 iq69 iq70 iq71 iq72 iq73 u145 iq74 iq75 iq76 iq77 iq78 iq79 iq80 iq81 iq82 iq83 iq84 iq85 iq86 iq87 iq88 iq89 iq90 iq91 iq92 iq93 iq94 iq95 iq96 iq97 iq98 iq99 iq100 iq101 iq102 iq103 iq104 iq105 iq106 iq107 iq108 iq109 iq110 iq111 iq112 iq113 iq114 iq115 iq116 iq117 iq118 iq119 iq120 iq121 iq122 iq123 iq124 iq125 iq126 iq127 iq128 iq129 iq130 iq131 iq132 iq133 iq134 iq135 n i j S sal scl sak sck sd T tal tcl tak tck td L hn hlt hltz pb po HZ hpB HM HI Cx Cy z d1 HZ1 iq136 iq137 iq138 iq139 iq140 wc u15 u16 u70 u71 u72 u73 u74 u75 u76 u77 u78 u79 u80 u81 u82 u83 u84 u85 u86 u89 u90 u91 u92 u93 u94 u95 u96 u97 u98 u99 u100 u101 u102 u103 u104 u105 u107 u108 u109 u110 u111 u112 u114 u115 u116 u117 u118 u119 u121 u122 u123 u124 u125 u126 u128 u129 u130 u131 u132 u133 u134 u135 u136 u137 u138 u139 u140 u141 u142 u143 u144 u146 u147 u148 u149 u150 u151 u152 u153 u154 u155 u156 u157 u158 u159 u160 u161 u162 u163 u164 u165 u166 u167 u168 u169 u170 u171 u172 u173 u174 u175 u176 u177 u178 u179 u180 u181 u182 u183 u184 u185 u186 u187 u188 u189 u190 u191 u192 u193 u194 u195 u196 u197 u198 u199 u200 u201 u202 u203 u204 u205 u206 u207 hcut
  obtain ⟨ox, oy, A, aal, acl, aak, ack, ad, Bt, bal, bcl, bak, bck, bd, rfl, rfl, hM, hA, hA8, hB, hB8, hX, hY, hxy, hox, hoy, hlx, hly⟩ := hcut
  have hR : RND w mb L g ag cg mb i (n : Int) S sal scl sak sck sd T tal tcl tak tck td ox oy A aal acl aak ack ad Bt bal bcl bak bck bd wc.heap.size wc := ⟨hM, hX, hY, hxy, ⟨hox, hlx⟩, ⟨hoy, hly⟩, ⟨hM.lo.2.2, Nat.le_refl _⟩⟩
  obtain ⟨hH, hKA, hKB⟩ := HI.out.head hA hA8 hB hB8
  have hA5 : Below wc.heap.size wc (wc.alloc (.cells #[.int .i64 A.kind, .int .i64 0, .int .i64 0, .string ⟨#[]⟩, .int .i64 0, .int .i64 0, .string ⟨#[]⟩, .slice none 0 0, .slice none 0 0, .string ⟨#[]⟩] 39)) := (Below.refl _ _).alloc (Nat.le_refl _) _
  have HR5 := hideK ((hR.keep hA5).keep ((Below.refl _ _).drew))
  have HE5 := hideK (show EvAt (wc.alloc (.cells #[.int .i64 A.kind, .int .i64 0, .int .i64 0, .string ⟨#[]⟩, .int .i64 0, .int .i64 0, .string ⟨#[]⟩, .slice none 0 0, .slice none 0 0, .string ⟨#[]⟩] 39)).drew wc.heap.size ⟨A.kind, 0, 0, ⟨#[]⟩, ⟨0, 0, ⟨#[]⟩, [], []⟩, ⟨#[]⟩⟩ none 0 none 0 from ⟨by go_cell, by go_cell, by go_cell, by go_cell, by go_cell, by go_cell, by go_cell, by go_cell, by go_cell, by go_cell⟩)
  have HFE5 := hideK (show ∀ o, (wc.alloc (.cells #[.int .i64 A.kind, .int .i64 0, .int .i64 0, .string ⟨#[]⟩, .int .i64 0, .int .i64 0, .string ⟨#[]⟩, .slice none 0 0, .slice none 0 0, .string ⟨#[]⟩] 39)).drew.frozen? ⟨wc.heap.size, o, none⟩ = false from fun o => by go_simp)
  have HXB := hideK (show wc.heap.size ≤ wc.heap.size ∧ wc.heap.size < (wc.alloc (.cells #[.int .i64 A.kind, .int .i64 0, .int .i64 0, .string ⟨#[]⟩, .int .i64 0, .int .i64 0, .string ⟨#[]⟩, .slice none 0 0, .slice none 0 0, .string ⟨#[]⟩] 39)).drew.heap.size from ⟨Nat.le_refl _, by simp⟩)
  have x0d := HR5.out.x.a.c0
  obtain ⟨x0, x1, x2, x3, x4⟩ := hX.a
  simp only [Nat.zero_add] at x1 x2 x3 x4
  have hnk : nxtZ g i 0 = A.kind := by unfold nxtZ; rw [if_pos rfl, hH.kd]
  have CNX := hideK (next_any g ag cg mb mb i (n : Int) 0 (wc.alloc (.cells #[.int .i64 A.kind, .int .i64 0, .int .i64 0, .string ⟨#[]⟩, .int .i64 0, .int .i64 0, .string ⟨#[]⟩, .slice none 0 0, .slice none 0 0, .string ⟨#[]⟩] 39)).drew HR5.out.m.m HR5.out.m.ga.gat (by have h1 := HR5.out.m.lo; have h2 := HR5.out.m.hB; omega) HI.out.hi (by have := HI.out.gg.le; omega))
  rw [hnk] at CNX
  have HH := hideK hH
  have HKA := hideK hKA
  have HKJ := hideK (show Bt.kind = (nodeAt h j).kind from by rw [← hH.k2, hH.kd]; exact (((bl_succ 0 g h i j).1 (HI.out.bl 1)).1).1)
  have HKB := hideK hKB
  have HUA := hideK hA
  have HUB := hideK hB
  have HA8 := hideK hA8
  have HB8 := hideK hB8
  clear hM hX hY hR hA hB hA8 hB8 hKA hKB hH hA5 hnk Cx Cy HM hox hoy hlx hly
  go_upto_region 18 with fail
  generalize wc.alloc (.cells #[.int .i64 A.kind, .int .i64 0, .int .i64 0, .string ⟨#[]⟩, .int .i64 0, .int .i64 0, .string ⟨#[]⟩, .slice none 0 0, .slice none 0 0, .string ⟨#[]⟩] 39) = V5 at *
  generalize wc.heap.size = xb at *
  refine wp_region_held_drew (S := (fun W : World => W.cell? ⟨ox, 0, none⟩ = some (.int .i64 A.kind))) (by as_aux_lemma => kernel_rfl) x0d (fun hS => ?_)
  refine wpAnyH_take (i := 0) (v := (.pointer (some ⟨mb, 0, none⟩))) (by rw [List.getElem?_toArray]; rfl) (by as_aux_lemma => kernel_rfl) (by as_aux_lemma => kernel_rfl) (by as_aux_lemma => kernel_rfl) (by exact fun _ _ _ h => h) (Or.inl ⟨by rfl, fun W hW => by go_simp⟩) hS ?_
  simp only [Act.put, List.setIfInBounds_toArray, List.set_cons_zero, List.set_cons_succ]
  refine wpAnyH_take (i := 2) (v := (.pointer (some ⟨ox, 0, none⟩))) (by rw [List.getElem?_toArray]; rfl) (by as_aux_lemma => kernel_rfl) (by as_aux_lemma => kernel_rfl) (by as_aux_lemma => kernel_rfl) (by exact fun _ _ _ h => h) (Or.inl ⟨by rfl, fun W hW => by go_simp⟩) hS ?_
  simp only [Act.put, List.setIfInBounds_toArray, List.set_cons_zero, List.set_cons_succ]
  refine wpAnyH_take (i := 3) (v := (.int .i64 A.kind)) (by rw [List.getElem?_toArray]; rfl) (by as_aux_lemma => kernel_rfl) (by as_aux_lemma => kernel_rfl) (by as_aux_lemma => kernel_rfl) (by exact fun _ _ _ h => h) (Or.inl ⟨by rfl, fun W hW => by have x0 := hW; go_simp⟩) hS ?_
  simp only [Act.put, List.setIfInBounds_toArray, List.set_cons_zero, List.set_cons_succ]
  refine take_oneHL 1 (AllReadyH.cons (by rw [List.getElem?_toArray]; rfl) (fun K hK => ?_) AllReadyH.nil) (by as_aux_lemma => kernel_rfl)
  go_simp
  refine CNX.out.mono ?_
  rintro e w6 ⟨rfl, hb6⟩
  have HR6 := hideK (HR5.out.keep hb6)
  have HE6 := hideK (show EvAt w6 xb ⟨A.kind, 0, 0, ⟨#[]⟩, ⟨0, 0, ⟨#[]⟩, [], []⟩, ⟨#[]⟩⟩ none 0 none 0 from HE5.out.keep hb6 HXB.out.2)
  have HFE6 := hideK (show ∀ o, w6.frozen? ⟨xb, o, none⟩ = false from fun o => (hb6.frozen (p := ⟨xb, o, none⟩) HXB.out.2).trans (HFE5.out o))
  have HXB6 := hideK (show xb ≤ xb ∧ xb < w6.heap.size from ⟨HXB.out.1, Nat.lt_of_lt_of_le HXB.out.2 hb6.size⟩)
  have hSn : (fun W : World => W.cell? ⟨ox, 0, none⟩ = some (.int .i64 A.kind)) w6 := HR6.out.x.a.c0
  refine hK.out _ _ hSn ?_
  clear hS hK K hSn hb6
  intro hS
  try simp only [Act.put, List.setIfInBounds_toArray, List.set_cons_zero, List.set_cons_succ]
  refine wpAnyH_take (i := 4) (v := (.bool false)) (by rw [List.getElem?_toArray]; rfl) (by as_aux_lemma => kernel_rfl) (by as_aux_lemma => kernel_rfl) (by as_aux_lemma => kernel_rfl) (by exact fun _ _ _ h => h) (Or.inl ⟨by rfl, fun W hW => by go_simp⟩) hS ?_
  simp only [Act.put, List.setIfInBounds_toArray, List.set_cons_zero, List.set_cons_succ]
  refine wpAnyH_done (by as_aux_lemma => kernel_rfl) ?_ _
  clear x0d x0 x1 x2 x3 x4 HR5 HE5 HFE5 HXB CNX
  have HZT := hideK (show (chkTy (⟨0, 0, ⟨#[]⟩, [], []⟩ : Ty) != 0) = true from by simpa using zT_chk)
  have hkk : A.kind = 1 ∨ A.kind = 2 ∨ A.kind = 3 ∨ A.kind = 4 ∨ A.kind = 5 ∨ A.kind = 6 ∨ A.kind = 7 := by
    have h1 := okN_cases HH.out.ok
    have h2 := HH.out.kd
    omega
  rcases hkk with hk | hk | hk | hk | hk | hk | hk
  · have b1 : (A.kind == 1) = true := by rw [hk]; rfl
    obtain ⟨x0, x1, x2, x3, x4⟩ := HR6.out.x.a
    obtain ⟨y0, y1, y2, y3, y4⟩ := HR6.out.y.a
    obtain ⟨e0, e1, e2, e3, e4, e5, e6, e7, e8, e9⟩ := HE6.out
    simp only [Nat.zero_add] at x1 x2 x3 x4 y1 y2 y3 y4
    have ef := HFE6.out
    have cS := state_any g ag cg mb mb i (n : Int) 0 w6 HR6.out.m.m HR6.out.m.ga.gat (by have := HR6.out.m.lo; omega) HI.out.hi (by have := HI.out.gg.le; omega)
    rw [show (nxtZ g i 0 == 1) = true from by unfold nxtZ; rw [if_pos rfl, ← HH.out.kd, hk]; rfl] at cS
    go_wp2_with fail
    refine cS.mono ?_
    rintro e w7 ⟨rfl, hb7⟩
    have HB7 := hideK (HR6.out.m.bl.trans (hb7.mono HR6.out.m.bl.size))
    clear cS hb7 x0 x1 x2 x3 x4 y0 y1 y2 y3 y4 e0 e1 e2 e3 e4 e5 e6 e7 e8 e9 ef HR6 HE6 HFE6 HXB6
    go_wp2_with fail
    go_ret
    exact ⟨rfl, HB7.out⟩
  · have b1 : (A.kind == 1) = false := by rw [hk]; rfl
    have b2 : (A.kind == 2) = true := by rw [hk]; rfl
    have b4 : (A.kind == 4) = false := by rw [hk]; rfl
    have b5 : (A.kind == 5) = false := by rw [hk]; rfl
    have hcA := okN_cases HH.out.ok
    have hcB := okN_cases HH.out.okh
    have hk2 := HH.out.k2
    have hkd := HH.out.kd
    have hna := HH.out.na
    have hnb := HH.out.nb
    have hkj : Bt.kind = (nodeAt h j).kind := HKJ.out
    have HP := hideK (show 0 < A.kids.length from by omega)
    have HQ := hideK (show 0 < Bt.kids.length from by omega)
    have hso : A.so = 1 ∨ A.so = 2 ∨ A.so = 3 := by rw [HH.out.so]; omega
    have HEV := hideK (ev_val (k := A.kind) (so := A.so) (by omega) hso)
    have HGO := hideK (show goesE g i ⟨A.kind, A.so, 0, ⟨#[]⟩, (⟨0, 0, ⟨#[]⟩, [], []⟩ : Ty), ⟨#[]⟩⟩ (toAt (nodeAt g i) 0) from ⟨hkd.symm, .inl ⟨(by show A.kind = 2 ∨ A.kind = 3; omega), HH.out.so.symm, rfl⟩⟩)
    clear hcA hcB hna hnb hkj hk2 hkd hso
    obtain ⟨kA, hkA⟩ : ∃ y9, A.kids[0]'HP.out = y9 := ⟨_, rfl⟩
    obtain ⟨kB, hkB⟩ : ∃ y9, Bt.kids[0]'HQ.out = y9 := ⟨_, rfl⟩
    have hbn := HI.out.one HUA.out HA8.out HUB.out HB8.out (by omega) HP.out HQ.out
    rw [hkA, hkB] at hbn
    have HBN := hideK hbn
    have HAP := hideK hkA
    have HBP := hideK hkB
    clear hbn hkA hkB
    clear hk
    obtain ⟨x0, x1, x2, x3, x4⟩ := HR6.out.x.a
    obtain ⟨y0, y1, y2, y3, y4⟩ := HR6.out.y.a
    obtain ⟨e0, e1, e2, e3, e4, e5, e6, e7, e8, e9⟩ := HE6.out
    simp only [Nat.zero_add] at x1 x2 x3 x4 y1 y2 y3 y4
    have ef := HFE6.out
    go_upto_region 40 with fail
    have HR7 := hideK (HR6.out.ev HXB6.out.1 (val_but A.so))
    have HE7 := hideK (HE6.out.val A.so)
    have HXB7 := hideK (show xb ≤ xb ∧ xb < (((w6.setCell ⟨xb, 1, none⟩ (.int .i64 A.so)).setCell ⟨xb, 2, none⟩ (.int .i64 0)).setCell ⟨xb, 3, none⟩ (.string ⟨#[]⟩)).heap.size from ⟨Nat.le_refl _, by simp; exact HXB6.out.2⟩)
    clear x0 x1 x2 x3 x4 y0 y1 y2 y3 y4 e0 e1 e2 e3 e4 e5 e6 e7 e8 e9 ef HR6 HE6 HFE6 HXB6
    generalize ((w6.setCell ⟨xb, 1, none⟩ (.int .i64 A.so)).setCell ⟨xb, 2, none⟩ (.int .i64 0)).setCell ⟨xb, 3, none⟩ (.string ⟨#[]⟩) = w7 at *
    have c1 := typesCheck_any 0 (⟨0, 0, ⟨#[]⟩, [], []⟩ : Ty) none 0 none 0 w7 zT_bd (show LA w7 w7.heap.size [] none from .inl rfl) (show KT w7 w7.heap.size 0 [] none from rfl)
    simp only [tyVal] at c1
    obtain ⟨e0, e1, e2, e3, e4, e5, e6, e7, e8, e9⟩ := HE7.out
    go_wp2_with fail
    refine c1.mono ?_
    rintro e w8 ⟨rfl, hb8⟩
    have HR8 := hideK (HR7.out.keep hb8)
    have HE8 := hideK (HE7.out.keep hb8 HXB7.out.2)
    have HC8 := hideK (And.intro ((NAt.keep hb8 (show LA w7 w7.heap.size [] none from .inl rfl)).mono hb8.size) ((KT.keep hb8 (show KT w7 w7.heap.size 0 [] none from rfl)).mono hb8.size))
    clear c1 hb8 e0 e1 e2 e3 e4 e5 e6 e7 e8 e9
    have hczb : (chkTy (⟨0, 0, ⟨#[]⟩, [], []⟩ : Ty) != 0) = true := HZT.out
    have hev := HEV.out
    have hgo := HGO.out
    have c2 := take_any (V := vD) (Tabs := AT w) (at_v HT.out) (at_k (W0 := w)) g HI.out.gg ag cg mb mb i (n : Int) 0 0 ⟨A.kind, A.so, 0, ⟨#[]⟩, (⟨0, 0, ⟨#[]⟩, [], []⟩ : Ty), ⟨#[]⟩⟩ none 0 none 0 w8 HR8.out.m.bl HR8.out.m.m HR8.out.m.ga.gat (by have := HR8.out.m.lo; omega) HI.out.hi ⟨by omega, by omega⟩ (by show (0 : Nat) ≤ _; omega) zT_bd HC8.out.1 HC8.out.2
    unfold TAPost at c2
    simp only [evVal] at c2
    obtain ⟨e0, e1, e2, e3, e4, e5, e6, e7, e8, e9⟩ := HE8.out
    go_wp2_with fail
    refine c2.mono ?_
    rintro e w9 ⟨i', dn', bl', v, z9, rfl, htk, hm9, hbut⟩
    obtain ⟨rfl, rfl, rfl, rfl, rfl⟩ := take_good htk hev hgo
    have HR9 := hideK ((HR8.out.take hm9 hbut).keep (Below.refl _ _).drew)
    clear c2 htk hm9 hbut e0 e1 e2 e3 e4 e5 e6 e7 e8 e9 hev hgo HR8 HE8 HC8 hczb
    obtain ⟨kb, ko, hak, hkQ, kal, kcl, kak, kck, hka, hkb, hkl, kd, hkk⟩ := kp_at HR9.out.x.kp HP.out
    obtain ⟨lb, lo, hbk, hlQ, lal, lcl, lak, lck, hla, hlb, hll, ld, hlk⟩ := kp_at HR9.out.y.kp HQ.out
    first | subst hak | (injection hak with hak; injection hak with h1 h2; have h1 := h1.symm; have h2 := h2.symm; subst h1 h2)
    first | subst hbk | (injection hbk with hbk; injection hbk with h1 h2; have h1 := h1.symm; have h2 := h2.symm; subst h1 h2)
    rw [HAP.out] at hka hkb hkl hkk
    rw [HBP.out] at hla hlb hll hlk
    have hN9 := HR9.out.next hkb hkl hkk hlb hll hlk
    have HN9 := hideK hN9
    have hpz : (0 : Int) < (A.kids.length : Int) := by have := HP.out; omega
    have hqz : (0 : Int) < (Bt.kids.length : Int) := by have := HQ.out; omega
    have hpn : ¬ A.kids = [] := fun q => by have := HP.out; rw [q] at this; simp at this
    have hqn : ¬ Bt.kids = [] := fun q => by have := HQ.out; rw [q] at this; simp at this
    have hS0 : (fun W : World => W.cell? ⟨ox, 4, none⟩ = some (.slice (some ⟨kb, ko, none⟩) A.kids.length ack) ∧ W.cell? ⟨oy, 4, none⟩ = some (.slice (some ⟨lb, lo, none⟩) Bt.kids.length bck) ∧ TyAt W kb (ko) kA kal kcl kak kck ∧ TyAt W lb (lo) kB lal lcl lak lck) w9.drew := ⟨HR9.out.x.a.c4, HR9.out.y.a.c4, by simpa using hka, by simpa using hla⟩
    have HQN := hideK (show kb ≠ w.heap.size ∧ kb ≠ w.heap.size + 1 ∧ lb ≠ w.heap.size ∧ lb ≠ w.heap.size + 1 ∧ ox ≠ w.heap.size ∧ ox ≠ w.heap.size + 1 ∧ oy ≠ w.heap.size ∧ oy ≠ w.heap.size + 1 from by
      have h1 := hkQ.ne ⟨HR9.out.m.lo.1, HR9.out.m.lo.2.1⟩
      have h2 := hlQ.ne ⟨HR9.out.m.lo.1, HR9.out.m.lo.2.1⟩
      have h3 := HR9.out.m.lo
      have h4 := HR9.out.lx
      have h5 := HR9.out.ly
      omega)
    have z0 := HR9.out.m.x.a
    have z1 := HR9.out.m.y.a
    have zf := HR9.out.m.fx
    have zg := HR9.out.m.fy
    clear hka hkb hkl hkk hla hlb hll hlk hkQ hlQ hN9
    go_upto_region 45 with fail
    refine wp_region_held_drew (S := (fun W : World => W.cell? ⟨ox, 4, none⟩ = some (.slice (some ⟨kb, ko, none⟩) A.kids.length ack) ∧ W.cell? ⟨oy, 4, none⟩ = some (.slice (some ⟨lb, lo, none⟩) Bt.kids.length bck) ∧ TyAt W kb (ko) kA kal kcl kak kck ∧ TyAt W lb (lo) kB lal lcl lak lck)) (by as_aux_lemma => kernel_rfl) hS0 (fun hS => ?_)
    generalize w9.drew = V9 at *
    refine wpAnyH_take (i := 0) (v := (.pointer (some ⟨ox, 4, none⟩))) (by rw [List.getElem?_toArray]; rfl) (by as_aux_lemma => kernel_rfl) (by as_aux_lemma => kernel_rfl) (by as_aux_lemma => kernel_rfl) (by exact fun _ _ _ h => h) (Or.inl ⟨by rfl, fun W hW => by go_simp⟩) hS ?_
    simp only [Act.put, List.setIfInBounds_toArray, List.set_cons_zero, List.set_cons_succ]
    refine wpAnyH_take (i := 1) (v := (.slice (some ⟨kb, ko, none⟩) A.kids.length ack)) (by rw [List.getElem?_toArray]; rfl) (by as_aux_lemma => kernel_rfl) (by as_aux_lemma => kernel_rfl) (by as_aux_lemma => kernel_rfl) (by exact fun _ _ _ h => h) (Or.inl ⟨by rfl, fun W hW => by have q0 := hW.1; go_simp⟩) hS ?_
    simp only [Act.put, List.setIfInBounds_toArray, List.set_cons_zero, List.set_cons_succ]
    refine wpAnyH_take (i := 2) (v := (.int .i64 0)) (by rw [List.getElem?_toArray]; rfl) (by as_aux_lemma => kernel_rfl) (by as_aux_lemma => kernel_rfl) (by as_aux_lemma => kernel_rfl) (by exact fun _ _ _ h => h) (Or.inl ⟨by rfl, fun W hW => by go_simp⟩) hS ?_
    simp only [Act.put, List.setIfInBounds_toArray, List.set_cons_zero, List.set_cons_succ]
    refine wpAnyH_take (i := 3) (v := (.pointer (some ⟨kb, ko, none⟩))) (by rw [List.getElem?_toArray]; rfl) (by as_aux_lemma => kernel_rfl) (by as_aux_lemma => kernel_rfl) (by as_aux_lemma => kernel_rfl) (by exact fun _ _ _ h => h) (Or.inl ⟨by rfl, fun W hW => by go_simp⟩) hS ?_
    simp only [Act.put, List.setIfInBounds_toArray, List.set_cons_zero, List.set_cons_succ]
    refine wpAnyH_take (i := 4) (v := (.agg #[.int .i64 kA.kind, .int .i64 kA.so, .string kA.name, .slice kal kA.labels.length kcl, .slice kak kA.kids.length kck])) (by rw [List.getElem?_toArray]; rfl) (by as_aux_lemma => kernel_rfl) (by as_aux_lemma => kernel_rfl) (by as_aux_lemma => kernel_rfl) (by exact fun _ _ _ h => h) (Or.inl ⟨by rfl, fun W hW => by obtain ⟨q0, q1, q2, q3, q4⟩ := hW.2.2.1; go_simp⟩) hS ?_
    simp only [Act.put, List.setIfInBounds_toArray, List.set_cons_zero, List.set_cons_succ]
    refine wpAnyH_take (i := 5) (v := (.pointer (some ⟨oy, 4, none⟩))) (by rw [List.getElem?_toArray]; rfl) (by as_aux_lemma => kernel_rfl) (by as_aux_lemma => kernel_rfl) (by as_aux_lemma => kernel_rfl) (by exact fun _ _ _ h => h) (Or.inl ⟨by rfl, fun W hW => by go_simp⟩) hS ?_
    simp only [Act.put, List.setIfInBounds_toArray, List.set_cons_zero, List.set_cons_succ]
    refine wpAnyH_take (i := 6) (v := (.slice (some ⟨lb, lo, none⟩) Bt.kids.length bck)) (by rw [List.getElem?_toArray]; rfl) (by as_aux_lemma => kernel_rfl) (by as_aux_lemma => kernel_rfl) (by as_aux_lemma => kernel_rfl) (by exact fun _ _ _ h => h) (Or.inl ⟨by rfl, fun W hW => by have q0 := hW.2.1; go_simp⟩) hS ?_
    simp only [Act.put, List.setIfInBounds_toArray, List.set_cons_zero, List.set_cons_succ]
    refine wpAnyH_take (i := 7) (v := (.int .i64 0)) (by rw [List.getElem?_toArray]; rfl) (by as_aux_lemma => kernel_rfl) (by as_aux_lemma => kernel_rfl) (by as_aux_lemma => kernel_rfl) (by exact fun _ _ _ h => h) (Or.inl ⟨by rfl, fun W hW => by go_simp⟩) hS ?_
    simp only [Act.put, List.setIfInBounds_toArray, List.set_cons_zero, List.set_cons_succ]
    refine wpAnyH_take (i := 8) (v := (.pointer (some ⟨lb, lo, none⟩))) (by rw [List.getElem?_toArray]; rfl) (by as_aux_lemma => kernel_rfl) (by as_aux_lemma => kernel_rfl) (by as_aux_lemma => kernel_rfl) (by exact fun _ _ _ h => h) (Or.inl ⟨by rfl, fun W hW => by go_simp⟩) hS ?_
    simp only [Act.put, List.setIfInBounds_toArray, List.set_cons_zero, List.set_cons_succ]
    refine wpAnyH_take (i := 9) (v := (.agg #[.int .i64 kB.kind, .int .i64 kB.so, .string kB.name, .slice lal kB.labels.length lcl, .slice lak kB.kids.length lck])) (by rw [List.getElem?_toArray]; rfl) (by as_aux_lemma => kernel_rfl) (by as_aux_lemma => kernel_rfl) (by as_aux_lemma => kernel_rfl) (by exact fun _ _ _ h => h) (Or.inl ⟨by rfl, fun W hW => by obtain ⟨q0, q1, q2, q3, q4⟩ := hW.2.2.2; go_simp⟩) hS ?_
    simp only [Act.put, List.setIfInBounds_toArray, List.set_cons_zero, List.set_cons_succ]
    obtain ⟨p0, p1, p2, p3, p4⟩ := z0
    obtain ⟨r0, r1, r2, r3, r4⟩ := z1
    simp only [Nat.zero_add] at p1 p2 p3 p4 r1 r2 r3 r4
    have hS1 : (fun W : World => W.cell? ⟨ox, 4, none⟩ = some (.slice (some ⟨kb, ko, none⟩) A.kids.length ack) ∧ W.cell? ⟨oy, 4, none⟩ = some (.slice (some ⟨lb, lo, none⟩) Bt.kids.length bck) ∧ TyAt W kb (ko) kA kal kcl kak kck ∧ TyAt W lb (lo) kB lal lcl lak lck) (st5 V9 w.heap.size 0 (.int .i64 kA.kind) (.int .i64 kA.so) (.string kA.name) (.slice kal kA.labels.length kcl) (.slice kak kA.kids.length kck)) := ⟨(st5_other _ _ _ _ _ _ _ _ _ _ (.inl (by have := HQN.out; omega))).trans hS.1, (st5_other _ _ _ _ _ _ _ _ _ _ (.inl (by have := HQN.out; omega))).trans hS.2.1, tyAt_any (by have := HQN.out; omega) hS.2.2.1, tyAt_any (by have := HQN.out; omega) hS.2.2.2⟩
    have R1 := tyAt_any (W := V9) (b := w.heap.size) (v0 := .int .i64 kA.kind) (v1 := .int .i64 kA.so) (v2 := .string kA.name) (v3 := .slice kal kA.labels.length kcl) (v4 := .slice kak kA.kids.length kck) (by omega) HR9.out.m.y.a
    have zg1 : ∀ o, (st5 V9 w.heap.size 0 (.int .i64 kA.kind) (.int .i64 kA.so) (.string kA.name) (.slice kal kA.labels.length kcl) (.slice kak kA.kids.length kck)).frozen? ⟨w.heap.size + 1, o, none⟩ = false := fun o => by unfold st5; simp only [World.frozen?_setCell]; exact zg o
    refine take_oneHL 10 (AllReadyH.cons (by rw [List.getElem?_toArray]; rfl) (fun K hK => ?_) AllReadyH.nil) (by as_aux_lemma => kernel_rfl)
    go_simp
    refine hK.out _ _ hS1 ?_
    clear hK K hS p0 p1 p2 p3 p4 r0 r1 r2 r3 r4 zf zg hS0 hS1
    intro hS
    try simp only [Act.put, List.setIfInBounds_toArray, List.set_cons_zero, List.set_cons_succ]
    change wpAnyH _ _ _ _ _ _ _ _ (st5 V9 w.heap.size 0 (.int .i64 kA.kind) (.int .i64 kA.so) (.string kA.name) (.slice kal kA.labels.length kcl) (.slice kak kA.kids.length kck))
    change (fun W : World => W.cell? ⟨ox, 4, none⟩ = some (.slice (some ⟨kb, ko, none⟩) A.kids.length ack) ∧ W.cell? ⟨oy, 4, none⟩ = some (.slice (some ⟨lb, lo, none⟩) Bt.kids.length bck) ∧ TyAt W kb (ko) kA kal kcl kak kck ∧ TyAt W lb (lo) kB lal lcl lak lck) (st5 V9 w.heap.size 0 (.int .i64 kA.kind) (.int .i64 kA.so) (.string kA.name) (.slice kal kA.labels.length kcl) (.slice kak kA.kids.length kck)) at hS
    generalize st5 V9 w.heap.size 0 (.int .i64 kA.kind) (.int .i64 kA.so) (.string kA.name) (.slice kal kA.labels.length kcl) (.slice kak kA.kids.length kck) = V1 at *
    obtain ⟨r0, r1, r2, r3, r4⟩ := R1
    simp only [Nat.zero_add] at r1 r2 r3 r4
    have hS2 : (fun W : World => W.cell? ⟨ox, 4, none⟩ = some (.slice (some ⟨kb, ko, none⟩) A.kids.length ack) ∧ W.cell? ⟨oy, 4, none⟩ = some (.slice (some ⟨lb, lo, none⟩) Bt.kids.length bck) ∧ TyAt W kb (ko) kA kal kcl kak kck ∧ TyAt W lb (lo) kB lal lcl lak lck) (st5 V1 (w.heap.size + 1) 0 (.int .i64 kB.kind) (.int .i64 kB.so) (.string kB.name) (.slice lal kB.labels.length lcl) (.slice lak kB.kids.length lck)) := ⟨(st5_other _ _ _ _ _ _ _ _ _ _ (.inl (by have := HQN.out; omega))).trans hS.1, (st5_other _ _ _ _ _ _ _ _ _ _ (.inl (by have := HQN.out; omega))).trans hS.2.1, tyAt_any (by have := HQN.out; omega) hS.2.2.1, tyAt_any (by have := HQN.out; omega) hS.2.2.2⟩
    refine take_oneHL 11 (AllReadyH.cons (by rw [List.getElem?_toArray]; rfl) (fun K hK => ?_) AllReadyH.nil) (by as_aux_lemma => kernel_rfl)
    go_simp
    refine hK.out _ _ hS2 ?_
    clear hK K hS r0 r1 r2 r3 r4 zg1 hS2
    intro hS
    try simp only [Act.put, List.setIfInBounds_toArray, List.set_cons_zero, List.set_cons_succ]
    change wpAnyH _ _ _ _ _ _ _ _ (st5 V1 (w.heap.size + 1) 0 (.int .i64 kB.kind) (.int .i64 kB.so) (.string kB.name) (.slice lal kB.labels.length lcl) (.slice lak kB.kids.length lck))
    clear hS
    generalize st5 V1 (w.heap.size + 1) 0 (.int .i64 kB.kind) (.int .i64 kB.so) (.string kB.name) (.slice lal kB.labels.length lcl) (.slice lak kB.kids.length lck) = V2 at *
    refine wpAnyH_done (by as_aux_lemma => kernel_rfl) ?_ _
    go_wp2_with fail
    exact ⟨⟨n + 1, _, _, kA, kal, kcl, kak, kck, kd, kB, lal, lcl, lak, lck, ld, _, by omega, by go_num, HN9.out, HBN.out⟩, by simp [intOf]; omega⟩
  · have b1 : (A.kind == 1) = false := by rw [hk]; rfl
    have b2 : (A.kind == 2) = false := by rw [hk]; rfl
    have b3 : (A.kind == 3) = true := by rw [hk]; rfl
    have b4 : (A.kind == 4) = false := by rw [hk]; rfl
    have b5 : (A.kind == 5) = false := by rw [hk]; rfl
    have hcA := okN_cases HH.out.ok
    have hcB := okN_cases HH.out.okh
    have hk2 := HH.out.k2
    have hkd := HH.out.kd
    have hna := HH.out.na
    have hnb := HH.out.nb
    have hkj : Bt.kind = (nodeAt h j).kind := HKJ.out
    have HP := hideK (show 0 < A.kids.length from by omega)
    have HQ := hideK (show 0 < Bt.kids.length from by omega)
    have hso : A.so = 1 ∨ A.so = 2 ∨ A.so = 3 := by rw [HH.out.so]; omega
    have HEV := hideK (ev_val (k := A.kind) (so := A.so) (by omega) hso)
    have HGO := hideK (show goesE g i ⟨A.kind, A.so, 0, ⟨#[]⟩, (⟨0, 0, ⟨#[]⟩, [], []⟩ : Ty), ⟨#[]⟩⟩ (toAt (nodeAt g i) 0) from ⟨hkd.symm, .inl ⟨(by show A.kind = 2 ∨ A.kind = 3; omega), HH.out.so.symm, rfl⟩⟩)
    clear hcA hcB hna hnb hkj hk2 hkd hso
    obtain ⟨kA, hkA⟩ : ∃ y9, A.kids[0]'HP.out = y9 := ⟨_, rfl⟩
    obtain ⟨kB, hkB⟩ : ∃ y9, Bt.kids[0]'HQ.out = y9 := ⟨_, rfl⟩
    have hbn := HI.out.one HUA.out HA8.out HUB.out HB8.out (by omega) HP.out HQ.out
    rw [hkA, hkB] at hbn
    have HBN := hideK hbn
    have HAP := hideK hkA
    have HBP := hideK hkB
    clear hbn hkA hkB
    clear hk
    obtain ⟨x0, x1, x2, x3, x4⟩ := HR6.out.x.a
    obtain ⟨y0, y1, y2, y3, y4⟩ := HR6.out.y.a
    obtain ⟨e0, e1, e2, e3, e4, e5, e6, e7, e8, e9⟩ := HE6.out
    simp only [Nat.zero_add] at x1 x2 x3 x4 y1 y2 y3 y4
    have ef := HFE6.out
    go_upto_region 40 with fail
    have HR7 := hideK (HR6.out.ev HXB6.out.1 (val_but A.so))
    have HE7 := hideK (HE6.out.val A.so)
    have HXB7 := hideK (show xb ≤ xb ∧ xb < (((w6.setCell ⟨xb, 1, none⟩ (.int .i64 A.so)).setCell ⟨xb, 2, none⟩ (.int .i64 0)).setCell ⟨xb, 3, none⟩ (.string ⟨#[]⟩)).heap.size from ⟨Nat.le_refl _, by simp; exact HXB6.out.2⟩)
    clear x0 x1 x2 x3 x4 y0 y1 y2 y3 y4 e0 e1 e2 e3 e4 e5 e6 e7 e8 e9 ef HR6 HE6 HFE6 HXB6
    generalize ((w6.setCell ⟨xb, 1, none⟩ (.int .i64 A.so)).setCell ⟨xb, 2, none⟩ (.int .i64 0)).setCell ⟨xb, 3, none⟩ (.string ⟨#[]⟩) = w7 at *
    have c1 := typesCheck_any 0 (⟨0, 0, ⟨#[]⟩, [], []⟩ : Ty) none 0 none 0 w7 zT_bd (show LA w7 w7.heap.size [] none from .inl rfl) (show KT w7 w7.heap.size 0 [] none from rfl)
    simp only [tyVal] at c1
    obtain ⟨e0, e1, e2, e3, e4, e5, e6, e7, e8, e9⟩ := HE7.out
    go_wp2_with fail
    refine c1.mono ?_
    rintro e w8 ⟨rfl, hb8⟩
    have HR8 := hideK (HR7.out.keep hb8)
    have HE8 := hideK (HE7.out.keep hb8 HXB7.out.2)
    have HC8 := hideK (And.intro ((NAt.keep hb8 (show LA w7 w7.heap.size [] none from .inl rfl)).mono hb8.size) ((KT.keep hb8 (show KT w7 w7.heap.size 0 [] none from rfl)).mono hb8.size))
    clear c1 hb8 e0 e1 e2 e3 e4 e5 e6 e7 e8 e9
    have hczb : (chkTy (⟨0, 0, ⟨#[]⟩, [], []⟩ : Ty) != 0) = true := HZT.out
    have hev := HEV.out
    have hgo := HGO.out
    have c2 := take_any (V := vD) (Tabs := AT w) (at_v HT.out) (at_k (W0 := w)) g HI.out.gg ag cg mb mb i (n : Int) 0 0 ⟨A.kind, A.so, 0, ⟨#[]⟩, (⟨0, 0, ⟨#[]⟩, [], []⟩ : Ty), ⟨#[]⟩⟩ none 0 none 0 w8 HR8.out.m.bl HR8.out.m.m HR8.out.m.ga.gat (by have := HR8.out.m.lo; omega) HI.out.hi ⟨by omega, by omega⟩ (by show (0 : Nat) ≤ _; omega) zT_bd HC8.out.1 HC8.out.2
    unfold TAPost at c2
    simp only [evVal] at c2
    obtain ⟨e0, e1, e2, e3, e4, e5, e6, e7, e8, e9⟩ := HE8.out
    go_wp2_with fail
    refine c2.mono ?_
    rintro e w9 ⟨i', dn', bl', v, z9, rfl, htk, hm9, hbut⟩
    obtain ⟨rfl, rfl, rfl, rfl, rfl⟩ := take_good htk hev hgo
    have HR9 := hideK ((HR8.out.take hm9 hbut).keep (Below.refl _ _).drew)
    clear c2 htk hm9 hbut e0 e1 e2 e3 e4 e5 e6 e7 e8 e9 hev hgo HR8 HE8 HC8 hczb
    obtain ⟨kb, ko, hak, hkQ, kal, kcl, kak, kck, hka, hkb, hkl, kd, hkk⟩ := kp_at HR9.out.x.kp HP.out
    obtain ⟨lb, lo, hbk, hlQ, lal, lcl, lak, lck, hla, hlb, hll, ld, hlk⟩ := kp_at HR9.out.y.kp HQ.out
    first | subst hak | (injection hak with hak; injection hak with h1 h2; have h1 := h1.symm; have h2 := h2.symm; subst h1 h2)
    first | subst hbk | (injection hbk with hbk; injection hbk with h1 h2; have h1 := h1.symm; have h2 := h2.symm; subst h1 h2)
    rw [HAP.out] at hka hkb hkl hkk
    rw [HBP.out] at hla hlb hll hlk
    have hN9 := HR9.out.next hkb hkl hkk hlb hll hlk
    have HN9 := hideK hN9
    have hpz : (0 : Int) < (A.kids.length : Int) := by have := HP.out; omega
    have hqz : (0 : Int) < (Bt.kids.length : Int) := by have := HQ.out; omega
    have hpn : ¬ A.kids = [] := fun q => by have := HP.out; rw [q] at this; simp at this
    have hqn : ¬ Bt.kids = [] := fun q => by have := HQ.out; rw [q] at this; simp at this
    have hS0 : (fun W : World => W.cell? ⟨ox, 4, none⟩ = some (.slice (some ⟨kb, ko, none⟩) A.kids.length ack) ∧ W.cell? ⟨oy, 4, none⟩ = some (.slice (some ⟨lb, lo, none⟩) Bt.kids.length bck) ∧ TyAt W kb (ko) kA kal kcl kak kck ∧ TyAt W lb (lo) kB lal lcl lak lck) w9.drew := ⟨HR9.out.x.a.c4, HR9.out.y.a.c4, by simpa using hka, by simpa using hla⟩
    have HQN := hideK (show kb ≠ w.heap.size ∧ kb ≠ w.heap.size + 1 ∧ lb ≠ w.heap.size ∧ lb ≠ w.heap.size + 1 ∧ ox ≠ w.heap.size ∧ ox ≠ w.heap.size + 1 ∧ oy ≠ w.heap.size ∧ oy ≠ w.heap.size + 1 from by
      have h1 := hkQ.ne ⟨HR9.out.m.lo.1, HR9.out.m.lo.2.1⟩
      have h2 := hlQ.ne ⟨HR9.out.m.lo.1, HR9.out.m.lo.2.1⟩
      have h3 := HR9.out.m.lo
      have h4 := HR9.out.lx
      have h5 := HR9.out.ly
      omega)
    have z0 := HR9.out.m.x.a
    have z1 := HR9.out.m.y.a
    have zf := HR9.out.m.fx
    have zg := HR9.out.m.fy
    clear hka hkb hkl hkk hla hlb hll hlk hkQ hlQ hN9
    go_upto_region 45 with fail
    refine wp_region_held_drew (S := (fun W : World => W.cell? ⟨ox, 4, none⟩ = some (.slice (some ⟨kb, ko, none⟩) A.kids.length ack) ∧ W.cell? ⟨oy, 4, none⟩ = some (.slice (some ⟨lb, lo, none⟩) Bt.kids.length bck) ∧ TyAt W kb (ko) kA kal kcl kak kck ∧ TyAt W lb (lo) kB lal lcl lak lck)) (by as_aux_lemma => kernel_rfl) hS0 (fun hS => ?_)
    generalize w9.drew = V9 at *
    refine wpAnyH_take (i := 0) (v := (.pointer (some ⟨ox, 4, none⟩))) (by rw [List.getElem?_toArray]; rfl) (by as_aux_lemma => kernel_rfl) (by as_aux_lemma => kernel_rfl) (by as_aux_lemma => kernel_rfl) (by exact fun _ _ _ h => h) (Or.inl ⟨by rfl, fun W hW => by go_simp⟩) hS ?_
    simp only [Act.put, List.setIfInBounds_toArray, List.set_cons_zero, List.set_cons_succ]
    refine wpAnyH_take (i := 1) (v := (.slice (some ⟨kb, ko, none⟩) A.kids.length ack)) (by rw [List.getElem?_toArray]; rfl) (by as_aux_lemma => kernel_rfl) (by as_aux_lemma => kernel_rfl) (by as_aux_lemma => kernel_rfl) (by exact fun _ _ _ h => h) (Or.inl ⟨by rfl, fun W hW => by have q0 := hW.1; go_simp⟩) hS ?_
    simp only [Act.put, List.setIfInBounds_toArray, List.set_cons_zero, List.set_cons_succ]
    refine wpAnyH_take (i := 2) (v := (.int .i64 0)) (by rw [List.getElem?_toArray]; rfl) (by as_aux_lemma => kernel_rfl) (by as_aux_lemma => kernel_rfl) (by as_aux_lemma => kernel_rfl) (by exact fun _ _ _ h => h) (Or.inl ⟨by rfl, fun W hW => by go_simp⟩) hS ?_
    simp only [Act.put, List.setIfInBounds_toArray, List.set_cons_zero, List.set_cons_succ]
    refine wpAnyH_take (i := 3) (v := (.pointer (some ⟨kb, ko, none⟩))) (by rw [List.getElem?_toArray]; rfl) (by as_aux_lemma => kernel_rfl) (by as_aux_lemma => kernel_rfl) (by as_aux_lemma => kernel_rfl) (by exact fun _ _ _ h => h) (Or.inl ⟨by rfl, fun W hW => by go_simp⟩) hS ?_
    simp only [Act.put, List.setIfInBounds_toArray, List.set_cons_zero, List.set_cons_succ]
    refine wpAnyH_take (i := 4) (v := (.agg #[.int .i64 kA.kind, .int .i64 kA.so, .string kA.name, .slice kal kA.labels.length kcl, .slice kak kA.kids.length kck])) (by rw [List.getElem?_toArray]; rfl) (by as_aux_lemma => kernel_rfl) (by as_aux_lemma => kernel_rfl) (by as_aux_lemma => kernel_rfl) (by exact fun _ _ _ h => h) (Or.inl ⟨by rfl, fun W hW => by obtain ⟨q0, q1, q2, q3, q4⟩ := hW.2.2.1; go_simp⟩) hS ?_
    simp only [Act.put, List.setIfInBounds_toArray, List.set_cons_zero, List.set_cons_succ]
    refine wpAnyH_take (i := 5) (v := (.pointer (some ⟨oy, 4, none⟩))) (by rw [List.getElem?_toArray]; rfl) (by as_aux_lemma => kernel_rfl) (by as_aux_lemma => kernel_rfl) (by as_aux_lemma => kernel_rfl) (by exact fun _ _ _ h => h) (Or.inl ⟨by rfl, fun W hW => by go_simp⟩) hS ?_
    simp only [Act.put, List.setIfInBounds_toArray, List.set_cons_zero, List.set_cons_succ]
    refine wpAnyH_take (i := 6) (v := (.slice (some ⟨lb, lo, none⟩) Bt.kids.length bck)) (by rw [List.getElem?_toArray]; rfl) (by as_aux_lemma => kernel_rfl) (by as_aux_lemma => kernel_rfl) (by as_aux_lemma => kernel_rfl) (by exact fun _ _ _ h => h) (Or.inl ⟨by rfl, fun W hW => by have q0 := hW.2.1; go_simp⟩) hS ?_
    simp only [Act.put, List.setIfInBounds_toArray, List.set_cons_zero, List.set_cons_succ]
    refine wpAnyH_take (i := 7) (v := (.int .i64 0)) (by rw [List.getElem?_toArray]; rfl) (by as_aux_lemma => kernel_rfl) (by as_aux_lemma => kernel_rfl) (by as_aux_lemma => kernel_rfl) (by exact fun _ _ _ h => h) (Or.inl ⟨by rfl, fun W hW => by go_simp⟩) hS ?_
    simp only [Act.put, List.setIfInBounds_toArray, List.set_cons_zero, List.set_cons_succ]
    refine wpAnyH_take (i := 8) (v := (.pointer (some ⟨lb, lo, none⟩))) (by rw [List.getElem?_toArray]; rfl) (by as_aux_lemma => kernel_rfl) (by as_aux_lemma => kernel_rfl) (by as_aux_lemma => kernel_rfl) (by exact fun _ _ _ h => h) (Or.inl ⟨by rfl, fun W hW => by go_simp⟩) hS ?_
    simp only [Act.put, List.setIfInBounds_toArray, List.set_cons_zero, List.set_cons_succ]
    refine wpAnyH_take (i := 9) (v := (.agg #[.int .i64 kB.kind, .int .i64 kB.so, .string kB.name, .slice lal kB.labels.length lcl, .slice lak kB.kids.length lck])) (by rw [List.getElem?_toArray]; rfl) (by as_aux_lemma => kernel_rfl) (by as_aux_lemma => kernel_rfl) (by as_aux_lemma => kernel_rfl) (by exact fun _ _ _ h => h) (Or.inl ⟨by rfl, fun W hW => by obtain ⟨q0, q1, q2, q3, q4⟩ := hW.2.2.2; go_simp⟩) hS ?_
    simp only [Act.put, List.setIfInBounds_toArray, List.set_cons_zero, List.set_cons_succ]
    obtain ⟨p0, p1, p2, p3, p4⟩ := z0
    obtain ⟨r0, r1, r2, r3, r4⟩ := z1
    simp only [Nat.zero_add] at p1 p2 p3 p4 r1 r2 r3 r4
    have hS1 : (fun W : World => W.cell? ⟨ox, 4, none⟩ = some (.slice (some ⟨kb, ko, none⟩) A.kids.length ack) ∧ W.cell? ⟨oy, 4, none⟩ = some (.slice (some ⟨lb, lo, none⟩) Bt.kids.length bck) ∧ TyAt W kb (ko) kA kal kcl kak kck ∧ TyAt W lb (lo) kB lal lcl lak lck) (st5 V9 w.heap.size 0 (.int .i64 kA.kind) (.int .i64 kA.so) (.string kA.name) (.slice kal kA.labels.length kcl) (.slice kak kA.kids.length kck)) := ⟨(st5_other _ _ _ _ _ _ _ _ _ _ (.inl (by have := HQN.out; omega))).trans hS.1, (st5_other _ _ _ _ _ _ _ _ _ _ (.inl (by have := HQN.out; omega))).trans hS.2.1, tyAt_any (by have := HQN.out; omega) hS.2.2.1, tyAt_any (by have := HQN.out; omega) hS.2.2.2⟩
    have R1 := tyAt_any (W := V9) (b := w.heap.size) (v0 := .int .i64 kA.kind) (v1 := .int .i64 kA.so) (v2 := .string kA.name) (v3 := .slice kal kA.labels.length kcl) (v4 := .slice kak kA.kids.length kck) (by omega) HR9.out.m.y.a
    have zg1 : ∀ o, (st5 V9 w.heap.size 0 (.int .i64 kA.kind) (.int .i64 kA.so) (.string kA.name) (.slice kal kA.labels.length kcl) (.slice kak kA.kids.length kck)).frozen? ⟨w.heap.size + 1, o, none⟩ = false := fun o => by unfold st5; simp only [World.frozen?_setCell]; exact zg o
    refine take_oneHL 10 (AllReadyH.cons (by rw [List.getElem?_toArray]; rfl) (fun K hK => ?_) AllReadyH.nil) (by as_aux_lemma => kernel_rfl)
    go_simp
    refine hK.out _ _ hS1 ?_
    clear hK K hS p0 p1 p2 p3 p4 r0 r1 r2 r3 r4 zf zg hS0 hS1
    intro hS
    try simp only [Act.put, List.setIfInBounds_toArray, List.set_cons_zero, List.set_cons_succ]
    change wpAnyH _ _ _ _ _ _ _ _ (st5 V9 w.heap.size 0 (.int .i64 kA.kind) (.int .i64 kA.so) (.string kA.name) (.slice kal kA.labels.length kcl) (.slice kak kA.kids.length kck))
    change (fun W : World => W.cell? ⟨ox, 4, none⟩ = some (.slice (some ⟨kb, ko, none⟩) A.kids.length ack) ∧ W.cell? ⟨oy, 4, none⟩ = some (.slice (some ⟨lb, lo, none⟩) Bt.kids.length bck) ∧ TyAt W kb (ko) kA kal kcl kak kck ∧ TyAt W lb (lo) kB lal lcl lak lck) (st5 V9 w.heap.size 0 (.int .i64 kA.kind) (.int .i64 kA.so) (.string kA.name) (.slice kal kA.labels.length kcl) (.slice kak kA.kids.length kck)) at hS
    generalize st5 V9 w.heap.size 0 (.int .i64 kA.kind) (.int .i64 kA.so) (.string kA.name) (.slice kal kA.labels.length kcl) (.slice kak kA.kids.length kck) = V1 at *
    obtain ⟨r0, r1, r2, r3, r4⟩ := R1
    simp only [Nat.zero_add] at r1 r2 r3 r4
    have hS2 : (fun W : World => W.cell? ⟨ox, 4, none⟩ = some (.slice (some ⟨kb, ko, none⟩) A.kids.length ack) ∧ W.cell? ⟨oy, 4, none⟩ = some (.slice (some ⟨lb, lo, none⟩) Bt.kids.length bck) ∧ TyAt W kb (ko) kA kal kcl kak kck ∧ TyAt W lb (lo) kB lal lcl lak lck) (st5 V1 (w.heap.size + 1) 0 (.int .i64 kB.kind) (.int .i64 kB.so) (.string kB.name) (.slice lal kB.labels.length lcl) (.slice lak kB.kids.length lck)) := ⟨(st5_other _ _ _ _ _ _ _ _ _ _ (.inl (by have := HQN.out; omega))).trans hS.1, (st5_other _ _ _ _ _ _ _ _ _ _ (.inl (by have := HQN.out; omega))).trans hS.2.1, tyAt_any (by have := HQN.out; omega) hS.2.2.1, tyAt_any (by have := HQN.out; omega) hS.2.2.2⟩
    refine take_oneHL 11 (AllReadyH.cons (by rw [List.getElem?_toArray]; rfl) (fun K hK => ?_) AllReadyH.nil) (by as_aux_lemma => kernel_rfl)
    go_simp
    refine hK.out _ _ hS2 ?_
    clear hK K hS r0 r1 r2 r3 r4 zg1 hS2
    intro hS
    try simp only [Act.put, List.setIfInBounds_toArray, List.set_cons_zero, List.set_cons_succ]
    change wpAnyH _ _ _ _ _ _ _ _ (st5 V1 (w.heap.size + 1) 0 (.int .i64 kB.kind) (.int .i64 kB.so) (.string kB.name) (.slice lal kB.labels.length lcl) (.slice lak kB.kids.length lck))
    clear hS
    generalize st5 V1 (w.heap.size + 1) 0 (.int .i64 kB.kind) (.int .i64 kB.so) (.string kB.name) (.slice lal kB.labels.length lcl) (.slice lak kB.kids.length lck) = V2 at *
    refine wpAnyH_done (by as_aux_lemma => kernel_rfl) ?_ _
    go_wp2_with fail
    exact ⟨⟨n + 1, _, _, kA, kal, kcl, kak, kck, kd, kB, lal, lcl, lak, lck, ld, _, by omega, by go_num, HN9.out, HBN.out⟩, by simp [intOf]; omega⟩
  · have b1 : (A.kind == 1) = false := by rw [hk]; rfl
    have b2 : (A.kind == 2) = false := by rw [hk]; rfl
    have b3 : (A.kind == 3) = false := by rw [hk]; rfl
    have b4 : (A.kind == 4) = true := by rw [hk]; rfl
    have b5 : (A.kind == 5) = false := by rw [hk]; rfl
    have hcA := okN_cases HH.out.ok
    have hcB := okN_cases HH.out.okh
    have hk2 := HH.out.k2
    have hkd := HH.out.kd
    have hna := HH.out.na
    have hnb := HH.out.nb
    have hkj : Bt.kind = (nodeAt h j).kind := HKJ.out
    have HP := hideK (show 1 < A.kids.length from by omega)
    have HQ := hideK (show 1 < Bt.kids.length from by omega)
    have HP0 := hideK (show 0 < A.kids.length from by omega)
    have HQ0 := hideK (show 0 < Bt.kids.length from by omega)
    have hl0z : (0 : Int) < (Bt.kids.length : Int) := by omega
    have hl0n : ¬ Bt.kids = [] := fun q => by rw [q] at hl0z; simp at hl0z
    obtain ⟨kC, hkC⟩ : ∃ q, Bt.kids[0]'HQ0.out = q := ⟨_, rfl⟩
    have HEV := hideK (fun (hz : chkTy kC = 0) => ev_car (k := A.kind) (by omega) hz)
    have HGO := hideK (fun (hz : chkTy kC = 0) => show goesE g i ⟨A.kind, 0, 0, ⟨#[]⟩, kC, ⟨#[]⟩⟩ (toAt (nodeAt g i) 1) from ⟨hkd.symm, .inr (.inl ⟨(by show A.kind = 4 ∨ A.kind = 5; omega), (by show mayC _ _ kC; rw [← hkC] at hz ⊢; exact HI.out.give HUA.out HA8.out HUB.out HB8.out hk HQ0.out hz), rfl⟩)⟩)
    obtain ⟨cb, co, hcak, hcQ, cal, ccl, cak, cck, hca, hcbd, hcl, cd, hck⟩ := kp_at HR6.out.y.kp HQ0.out
    rw [hkC] at hca hcbd hcl hck
    simp only [Nat.zero_mul, Nat.add_zero] at hca
    have HCL6 := hideK (And.intro (hcl.la (B := xb) (fun b q => q.lt HR6.out.lm.1)) (hck.kt (B := xb) (fun b q => q.lt HR6.out.lm.1)))
    have HCB := hideK hcbd
    clear hcA hcB hna hnb hkj hk2 hkd hcbd hcl hck hcQ hkC
    obtain ⟨kA, hkA⟩ : ∃ y9, A.kids[1]'HP.out = y9 := ⟨_, rfl⟩
    obtain ⟨kB, hkB⟩ : ∃ y9, Bt.kids[1]'HQ.out = y9 := ⟨_, rfl⟩
    have hbn := HI.out.two HUA.out HA8.out HUB.out HB8.out (by omega) HP.out HQ.out
    rw [hkA, hkB] at hbn
    have HBN := hideK hbn
    have HAP := hideK hkA
    have HBP := hideK hkB
    clear hbn hkA hkB
    clear hk
    subst hcak
    obtain ⟨x0, x1, x2, x3, x4⟩ := HR6.out.x.a
    obtain ⟨y0, y1, y2, y3, y4⟩ := HR6.out.y.a
    obtain ⟨e0, e1, e2, e3, e4, e5, e6, e7, e8, e9⟩ := HE6.out
    simp only [Nat.zero_add] at x1 x2 x3 x4 y1 y2 y3 y4
    have ef := HFE6.out
    obtain ⟨q0, q1, q2, q3, q4⟩ := hca
    go_upto_region 40 with fail
    have hbut := car_but (W := w6) (b := xb) (.int .i64 kC.kind) (.int .i64 kC.so) (.string kC.name) (.slice cal kC.labels.length ccl) (.slice cak kC.kids.length cck)
    have HR7 := hideK (HR6.out.ev HXB6.out.1 hbut)
    have HE7 := hideK (HE6.out.car kC cal ccl cak cck)
    have HXB7 := hideK (show xb ≤ xb ∧ xb < (((((w6.setCell ⟨xb, 4, none⟩ (.int .i64 kC.kind)).setCell ⟨xb, 5, none⟩ (.int .i64 kC.so)).setCell ⟨xb, 6, none⟩ (.string kC.name)).setCell ⟨xb, 7, none⟩ (.slice cal kC.labels.length ccl)).setCell ⟨xb, 8, none⟩ (.slice cak kC.kids.length cck)).heap.size from ⟨Nat.le_refl _, by simp; exact HXB6.out.2⟩)
    have hbel := hbut.bel (B := xb) (Nat.le_of_lt HXB6.out.2) (Nat.le_refl _) (Nat.le_refl _) (Nat.le_refl _)
    have HCL := hideK (And.intro ((NAt.keep hbel HCL6.out.1).mono (Nat.le_of_lt HXB7.out.2)) ((KT.keep hbel HCL6.out.2).mono (Nat.le_of_lt HXB7.out.2)))
    clear hbut hbel HCL6 q0 q1 q2 q3 q4
    clear x0 x1 x2 x3 x4 y0 y1 y2 y3 y4 e0 e1 e2 e3 e4 e5 e6 e7 e8 e9 ef HR6 HE6 HFE6 HXB6
    generalize ((((w6.setCell ⟨xb, 4, none⟩ (.int .i64 kC.kind)).setCell ⟨xb, 5, none⟩ (.int .i64 kC.so)).setCell ⟨xb, 6, none⟩ (.string kC.name)).setCell ⟨xb, 7, none⟩ (.slice cal kC.labels.length ccl)).setCell ⟨xb, 8, none⟩ (.slice cak kC.kids.length cck) = w7 at *
    have c1 := typesCheck_any cd kC cal ccl cak cck w7 HCB.out HCL.out.1 HCL.out.2
    simp only [tyVal] at c1
    obtain ⟨e0, e1, e2, e3, e4, e5, e6, e7, e8, e9⟩ := HE7.out
    go_wp2_with fail
    refine c1.mono ?_
    rintro e w8 ⟨rfl, hb8⟩
    have HR8 := hideK (HR7.out.keep hb8)
    have HE8 := hideK (HE7.out.keep hb8 HXB7.out.2)
    have HC8 := hideK (And.intro ((NAt.keep hb8 HCL.out.1).mono hb8.size) ((KT.keep hb8 HCL.out.2).mono hb8.size))
    clear c1 hb8 e0 e1 e2 e3 e4 e5 e6 e7 e8 e9
    by_cases hcz : chkTy kC = 0
    case neg =>
      have hczb : (chkTy kC != 0) = true := by simpa using hcz
      obtain ⟨e0, e1, e2, e3, e4, e5, e6, e7, e8, e9⟩ := HE8.out
      clear hcz
      go_wp2_with fail
      go_ret
      exact ⟨rfl, HR8.out.m.bl⟩
    have hczb : (chkTy kC != 0) = false := by simpa using hcz
    have hev := HEV.out hcz
    have hgo := HGO.out hcz
    have c2 := take_any (V := vD) (Tabs := AT w) (at_v HT.out) (at_k (W0 := w)) g HI.out.gg ag cg mb mb i (n : Int) 0 cd ⟨A.kind, 0, 0, ⟨#[]⟩, kC, ⟨#[]⟩⟩ cal ccl cak cck w8 HR8.out.m.bl HR8.out.m.m HR8.out.m.ga.gat (by have := HR8.out.m.lo; omega) HI.out.hi ⟨by omega, by omega⟩ (by show (0 : Nat) ≤ _; omega) HCB.out HC8.out.1 HC8.out.2
    unfold TAPost at c2
    simp only [evVal] at c2
    obtain ⟨e0, e1, e2, e3, e4, e5, e6, e7, e8, e9⟩ := HE8.out
    go_wp2_with fail
    refine c2.mono ?_
    rintro e w9 ⟨i', dn', bl', v, z9, rfl, htk, hm9, hbut⟩
    obtain ⟨rfl, rfl, rfl, rfl, rfl⟩ := take_good htk hev hgo
    have HR9 := hideK ((HR8.out.take hm9 hbut).keep (Below.refl _ _).drew)
    clear c2 htk hm9 hbut e0 e1 e2 e3 e4 e5 e6 e7 e8 e9 hev hgo HR8 HE8 HC8 hczb
    obtain ⟨kb, ko, hak, hkQ, kal, kcl, kak, kck, hka, hkb, hkl, kd, hkk⟩ := kp_at HR9.out.x.kp HP.out
    obtain ⟨lb, lo, hbk, hlQ, lal, lcl, lak, lck, hla, hlb, hll, ld, hlk⟩ := kp_at HR9.out.y.kp HQ.out
    first | subst hak | (injection hak with hak; injection hak with h1 h2; have h1 := h1.symm; have h2 := h2.symm; subst h1 h2)
    first | subst hbk | (injection hbk with hbk; injection hbk with h1 h2; have h1 := h1.symm; have h2 := h2.symm; subst h1 h2)
    rw [HAP.out] at hka hkb hkl hkk
    rw [HBP.out] at hla hlb hll hlk
    have hN9 := HR9.out.next hkb hkl hkk hlb hll hlk
    have HN9 := hideK hN9
    have hpz : (1 : Int) < (A.kids.length : Int) := by have := HP.out; omega
    have hqz : (1 : Int) < (Bt.kids.length : Int) := by have := HQ.out; omega
    have hpn : ¬ A.kids = [] := fun q => by have := HP.out; rw [q] at this; simp at this
    have hqn : ¬ Bt.kids = [] := fun q => by have := HQ.out; rw [q] at this; simp at this
    have hS0 : (fun W : World => W.cell? ⟨ox, 4, none⟩ = some (.slice (some ⟨kb, ko, none⟩) A.kids.length ack) ∧ W.cell? ⟨oy, 4, none⟩ = some (.slice (some ⟨lb, lo, none⟩) Bt.kids.length bck) ∧ TyAt W kb (ko + 5) kA kal kcl kak kck ∧ TyAt W lb (lo + 5) kB lal lcl lak lck) w9.drew := ⟨HR9.out.x.a.c4, HR9.out.y.a.c4, by simpa using hka, by simpa using hla⟩
    have HQN := hideK (show kb ≠ w.heap.size ∧ kb ≠ w.heap.size + 1 ∧ lb ≠ w.heap.size ∧ lb ≠ w.heap.size + 1 ∧ ox ≠ w.heap.size ∧ ox ≠ w.heap.size + 1 ∧ oy ≠ w.heap.size ∧ oy ≠ w.heap.size + 1 from by
      have h1 := hkQ.ne ⟨HR9.out.m.lo.1, HR9.out.m.lo.2.1⟩
      have h2 := hlQ.ne ⟨HR9.out.m.lo.1, HR9.out.m.lo.2.1⟩
      have h3 := HR9.out.m.lo
      have h4 := HR9.out.lx
      have h5 := HR9.out.ly
      omega)
    have z0 := HR9.out.m.x.a
    have z1 := HR9.out.m.y.a
    have zf := HR9.out.m.fx
    have zg := HR9.out.m.fy
    clear hka hkb hkl hkk hla hlb hll hlk hkQ hlQ hN9
    go_upto_region 45 with fail
    refine wp_region_held_drew (S := (fun W : World => W.cell? ⟨ox, 4, none⟩ = some (.slice (some ⟨kb, ko, none⟩) A.kids.length ack) ∧ W.cell? ⟨oy, 4, none⟩ = some (.slice (some ⟨lb, lo, none⟩) Bt.kids.length bck) ∧ TyAt W kb (ko + 5) kA kal kcl kak kck ∧ TyAt W lb (lo + 5) kB lal lcl lak lck)) (by as_aux_lemma => kernel_rfl) hS0 (fun hS => ?_)
    generalize w9.drew = V9 at *
    refine wpAnyH_take (i := 0) (v := (.pointer (some ⟨ox, 4, none⟩))) (by rw [List.getElem?_toArray]; rfl) (by as_aux_lemma => kernel_rfl) (by as_aux_lemma => kernel_rfl) (by as_aux_lemma => kernel_rfl) (by exact fun _ _ _ h => h) (Or.inl ⟨by rfl, fun W hW => by go_simp⟩) hS ?_
    simp only [Act.put, List.setIfInBounds_toArray, List.set_cons_zero, List.set_cons_succ]
    refine wpAnyH_take (i := 1) (v := (.slice (some ⟨kb, ko, none⟩) A.kids.length ack)) (by rw [List.getElem?_toArray]; rfl) (by as_aux_lemma => kernel_rfl) (by as_aux_lemma => kernel_rfl) (by as_aux_lemma => kernel_rfl) (by exact fun _ _ _ h => h) (Or.inl ⟨by rfl, fun W hW => by have q0 := hW.1; go_simp⟩) hS ?_
    simp only [Act.put, List.setIfInBounds_toArray, List.set_cons_zero, List.set_cons_succ]
    refine wpAnyH_take (i := 2) (v := (.int .i64 1)) (by rw [List.getElem?_toArray]; rfl) (by as_aux_lemma => kernel_rfl) (by as_aux_lemma => kernel_rfl) (by as_aux_lemma => kernel_rfl) (by exact fun _ _ _ h => h) (Or.inl ⟨by rfl, fun W hW => by go_simp⟩) hS ?_
    simp only [Act.put, List.setIfInBounds_toArray, List.set_cons_zero, List.set_cons_succ]
    refine wpAnyH_take (i := 3) (v := (.pointer (some ⟨kb, ko + 5, none⟩))) (by rw [List.getElem?_toArray]; rfl) (by as_aux_lemma => kernel_rfl) (by as_aux_lemma => kernel_rfl) (by as_aux_lemma => kernel_rfl) (by exact fun _ _ _ h => h) (Or.inl ⟨by rfl, fun W hW => by go_simp⟩) hS ?_
    simp only [Act.put, List.setIfInBounds_toArray, List.set_cons_zero, List.set_cons_succ]
    refine wpAnyH_take (i := 4) (v := (.agg #[.int .i64 kA.kind, .int .i64 kA.so, .string kA.name, .slice kal kA.labels.length kcl, .slice kak kA.kids.length kck])) (by rw [List.getElem?_toArray]; rfl) (by as_aux_lemma => kernel_rfl) (by as_aux_lemma => kernel_rfl) (by as_aux_lemma => kernel_rfl) (by exact fun _ _ _ h => h) (Or.inl ⟨by rfl, fun W hW => by obtain ⟨q0, q1, q2, q3, q4⟩ := hW.2.2.1; go_simp⟩) hS ?_
    simp only [Act.put, List.setIfInBounds_toArray, List.set_cons_zero, List.set_cons_succ]
    refine wpAnyH_take (i := 5) (v := (.pointer (some ⟨oy, 4, none⟩))) (by rw [List.getElem?_toArray]; rfl) (by as_aux_lemma => kernel_rfl) (by as_aux_lemma => kernel_rfl) (by as_aux_lemma => kernel_rfl) (by exact fun _ _ _ h => h) (Or.inl ⟨by rfl, fun W hW => by go_simp⟩) hS ?_
    simp only [Act.put, List.setIfInBounds_toArray, List.set_cons_zero, List.set_cons_succ]
    refine wpAnyH_take (i := 6) (v := (.slice (some ⟨lb, lo, none⟩) Bt.kids.length bck)) (by rw [List.getElem?_toArray]; rfl) (by as_aux_lemma => kernel_rfl) (by as_aux_lemma => kernel_rfl) (by as_aux_lemma => kernel_rfl) (by exact fun _ _ _ h => h) (Or.inl ⟨by rfl, fun W hW => by have q0 := hW.2.1; go_simp⟩) hS ?_
    simp only [Act.put, List.setIfInBounds_toArray, List.set_cons_zero, List.set_cons_succ]
    refine wpAnyH_take (i := 7) (v := (.int .i64 1)) (by rw [List.getElem?_toArray]; rfl) (by as_aux_lemma => kernel_rfl) (by as_aux_lemma => kernel_rfl) (by as_aux_lemma => kernel_rfl) (by exact fun _ _ _ h => h) (Or.inl ⟨by rfl, fun W hW => by go_simp⟩) hS ?_
    simp only [Act.put, List.setIfInBounds_toArray, List.set_cons_zero, List.set_cons_succ]
    refine wpAnyH_take (i := 8) (v := (.pointer (some ⟨lb, lo + 5, none⟩))) (by rw [List.getElem?_toArray]; rfl) (by as_aux_lemma => kernel_rfl) (by as_aux_lemma => kernel_rfl) (by as_aux_lemma => kernel_rfl) (by exact fun _ _ _ h => h) (Or.inl ⟨by rfl, fun W hW => by go_simp⟩) hS ?_
    simp only [Act.put, List.setIfInBounds_toArray, List.set_cons_zero, List.set_cons_succ]
    refine wpAnyH_take (i := 9) (v := (.agg #[.int .i64 kB.kind, .int .i64 kB.so, .string kB.name, .slice lal kB.labels.length lcl, .slice lak kB.kids.length lck])) (by rw [List.getElem?_toArray]; rfl) (by as_aux_lemma => kernel_rfl) (by as_aux_lemma => kernel_rfl) (by as_aux_lemma => kernel_rfl) (by exact fun _ _ _ h => h) (Or.inl ⟨by rfl, fun W hW => by obtain ⟨q0, q1, q2, q3, q4⟩ := hW.2.2.2; go_simp⟩) hS ?_
    simp only [Act.put, List.setIfInBounds_toArray, List.set_cons_zero, List.set_cons_succ]
    obtain ⟨p0, p1, p2, p3, p4⟩ := z0
    obtain ⟨r0, r1, r2, r3, r4⟩ := z1
    simp only [Nat.zero_add] at p1 p2 p3 p4 r1 r2 r3 r4
    have hS1 : (fun W : World => W.cell? ⟨ox, 4, none⟩ = some (.slice (some ⟨kb, ko, none⟩) A.kids.length ack) ∧ W.cell? ⟨oy, 4, none⟩ = some (.slice (some ⟨lb, lo, none⟩) Bt.kids.length bck) ∧ TyAt W kb (ko + 5) kA kal kcl kak kck ∧ TyAt W lb (lo + 5) kB lal lcl lak lck) (st5 V9 w.heap.size 0 (.int .i64 kA.kind) (.int .i64 kA.so) (.string kA.name) (.slice kal kA.labels.length kcl) (.slice kak kA.kids.length kck)) := ⟨(st5_other _ _ _ _ _ _ _ _ _ _ (.inl (by have := HQN.out; omega))).trans hS.1, (st5_other _ _ _ _ _ _ _ _ _ _ (.inl (by have := HQN.out; omega))).trans hS.2.1, tyAt_any (by have := HQN.out; omega) hS.2.2.1, tyAt_any (by have := HQN.out; omega) hS.2.2.2⟩
    have R1 := tyAt_any (W := V9) (b := w.heap.size) (v0 := .int .i64 kA.kind) (v1 := .int .i64 kA.so) (v2 := .string kA.name) (v3 := .slice kal kA.labels.length kcl) (v4 := .slice kak kA.kids.length kck) (by omega) HR9.out.m.y.a
    have zg1 : ∀ o, (st5 V9 w.heap.size 0 (.int .i64 kA.kind) (.int .i64 kA.so) (.string kA.name) (.slice kal kA.labels.length kcl) (.slice kak kA.kids.length kck)).frozen? ⟨w.heap.size + 1, o, none⟩ = false := fun o => by unfold st5; simp only [World.frozen?_setCell]; exact zg o
    refine take_oneHL 10 (AllReadyH.cons (by rw [List.getElem?_toArray]; rfl) (fun K hK => ?_) AllReadyH.nil) (by as_aux_lemma => kernel_rfl)
    go_simp
    refine hK.out _ _ hS1 ?_
    clear hK K hS p0 p1 p2 p3 p4 r0 r1 r2 r3 r4 zf zg hS0 hS1
    intro hS
    try simp only [Act.put, List.setIfInBounds_toArray, List.set_cons_zero, List.set_cons_succ]
    change wpAnyH _ _ _ _ _ _ _ _ (st5 V9 w.heap.size 0 (.int .i64 kA.kind) (.int .i64 kA.so) (.string kA.name) (.slice kal kA.labels.length kcl) (.slice kak kA.kids.length kck))
    change (fun W : World => W.cell? ⟨ox, 4, none⟩ = some (.slice (some ⟨kb, ko, none⟩) A.kids.length ack) ∧ W.cell? ⟨oy, 4, none⟩ = some (.slice (some ⟨lb, lo, none⟩) Bt.kids.length bck) ∧ TyAt W kb (ko + 5) kA kal kcl kak kck ∧ TyAt W lb (lo + 5) kB lal lcl lak lck) (st5 V9 w.heap.size 0 (.int .i64 kA.kind) (.int .i64 kA.so) (.string kA.name) (.slice kal kA.labels.length kcl) (.slice kak kA.kids.length kck)) at hS
    generalize st5 V9 w.heap.size 0 (.int .i64 kA.kind) (.int .i64 kA.so) (.string kA.name) (.slice kal kA.labels.length kcl) (.slice kak kA.kids.length kck) = V1 at *
    obtain ⟨r0, r1, r2, r3, r4⟩ := R1
    simp only [Nat.zero_add] at r1 r2 r3 r4
    have hS2 : (fun W : World => W.cell? ⟨ox, 4, none⟩ = some (.slice (some ⟨kb, ko, none⟩) A.kids.length ack) ∧ W.cell? ⟨oy, 4, none⟩ = some (.slice (some ⟨lb, lo, none⟩) Bt.kids.length bck) ∧ TyAt W kb (ko + 5) kA kal kcl kak kck ∧ TyAt W lb (lo + 5) kB lal lcl lak lck) (st5 V1 (w.heap.size + 1) 0 (.int .i64 kB.kind) (.int .i64 kB.so) (.string kB.name) (.slice lal kB.labels.length lcl) (.slice lak kB.kids.length lck)) := ⟨(st5_other _ _ _ _ _ _ _ _ _ _ (.inl (by have := HQN.out; omega))).trans hS.1, (st5_other _ _ _ _ _ _ _ _ _ _ (.inl (by have := HQN.out; omega))).trans hS.2.1, tyAt_any (by have := HQN.out; omega) hS.2.2.1, tyAt_any (by have := HQN.out; omega) hS.2.2.2⟩
    refine take_oneHL 11 (AllReadyH.cons (by rw [List.getElem?_toArray]; rfl) (fun K hK => ?_) AllReadyH.nil) (by as_aux_lemma => kernel_rfl)
    go_simp
    refine hK.out _ _ hS2 ?_
    clear hK K hS r0 r1 r2 r3 r4 zg1 hS2
    intro hS
    try simp only [Act.put, List.setIfInBounds_toArray, List.set_cons_zero, List.set_cons_succ]
    change wpAnyH _ _ _ _ _ _ _ _ (st5 V1 (w.heap.size + 1) 0 (.int .i64 kB.kind) (.int .i64 kB.so) (.string kB.name) (.slice lal kB.labels.length lcl) (.slice lak kB.kids.length lck))
    clear hS
    generalize st5 V1 (w.heap.size + 1) 0 (.int .i64 kB.kind) (.int .i64 kB.so) (.string kB.name) (.slice lal kB.labels.length lcl) (.slice lak kB.kids.length lck) = V2 at *
    refine wpAnyH_done (by as_aux_lemma => kernel_rfl) ?_ _
    go_wp2_with fail
    exact ⟨⟨n + 1, _, _, kA, kal, kcl, kak, kck, kd, kB, lal, lcl, lak, lck, ld, _, by omega, by go_num, HN9.out, HBN.out⟩, by simp [intOf]; omega⟩
  · have b1 : (A.kind == 1) = false := by rw [hk]; rfl
    have b2 : (A.kind == 2) = false := by rw [hk]; rfl
    have b3 : (A.kind == 3) = false := by rw [hk]; rfl
    have b4 : (A.kind == 4) = false := by rw [hk]; rfl
    have b5 : (A.kind == 5) = true := by rw [hk]; rfl
    have hcA := okN_cases HH.out.ok
    have hcB := okN_cases HH.out.okh
    have hk2 := HH.out.k2
    have hkd := HH.out.kd
    have hna := HH.out.na
    have hnb := HH.out.nb
    have hkj : Bt.kind = (nodeAt h j).kind := HKJ.out
    have HP := hideK (show 1 < A.kids.length from by omega)
    have HQ := hideK (show 1 < Bt.kids.length from by omega)
    have HP0 := hideK (show 0 < A.kids.length from by omega)
    have HQ0 := hideK (show 0 < Bt.kids.length from by omega)
    have hl0z : (0 : Int) < (A.kids.length : Int) := by omega
    have hl0n : ¬ A.kids = [] := fun q => by rw [q] at hl0z; simp at hl0z
    obtain ⟨kC, hkC⟩ : ∃ q, A.kids[0]'HP0.out = q := ⟨_, rfl⟩
    have HEV := hideK (fun (hz : chkTy kC = 0) => ev_car (k := A.kind) (by omega) hz)
    have HGO := hideK (fun (hz : chkTy kC = 0) => show goesE g i ⟨A.kind, 0, 0, ⟨#[]⟩, kC, ⟨#[]⟩⟩ (toAt (nodeAt g i) 1) from ⟨hkd.symm, .inr (.inl ⟨(by show A.kind = 4 ∨ A.kind = 5; omega), (by show mayC _ _ kC; rw [← hkC] at hz ⊢; exact HI.out.take HUA.out HA8.out HUB.out HB8.out HP0.out hz), rfl⟩)⟩)
    obtain ⟨cb, co, hcak, hcQ, cal, ccl, cak, cck, hca, hcbd, hcl, cd, hck⟩ := kp_at HR6.out.x.kp HP0.out
    rw [hkC] at hca hcbd hcl hck
    simp only [Nat.zero_mul, Nat.add_zero] at hca
    have HCL6 := hideK (And.intro (hcl.la (B := xb) (fun b q => q.lt HR6.out.lm.1)) (hck.kt (B := xb) (fun b q => q.lt HR6.out.lm.1)))
    have HCB := hideK hcbd
    clear hcA hcB hna hnb hkj hk2 hkd hcbd hcl hck hcQ hkC
    obtain ⟨kA, hkA⟩ : ∃ y9, A.kids[1]'HP.out = y9 := ⟨_, rfl⟩
    obtain ⟨kB, hkB⟩ : ∃ y9, Bt.kids[1]'HQ.out = y9 := ⟨_, rfl⟩
    have hbn := HI.out.two HUA.out HA8.out HUB.out HB8.out (by omega) HP.out HQ.out
    rw [hkA, hkB] at hbn
    have HBN := hideK hbn
    have HAP := hideK hkA
    have HBP := hideK hkB
    clear hbn hkA hkB
    clear hk
    subst hcak
    obtain ⟨x0, x1, x2, x3, x4⟩ := HR6.out.x.a
    obtain ⟨y0, y1, y2, y3, y4⟩ := HR6.out.y.a
    obtain ⟨e0, e1, e2, e3, e4, e5, e6, e7, e8, e9⟩ := HE6.out
    simp only [Nat.zero_add] at x1 x2 x3 x4 y1 y2 y3 y4
    have ef := HFE6.out
    obtain ⟨q0, q1, q2, q3, q4⟩ := hca
    go_upto_region 40 with fail
    have hbut := car_but (W := w6) (b := xb) (.int .i64 kC.kind) (.int .i64 kC.so) (.string kC.name) (.slice cal kC.labels.length ccl) (.slice cak kC.kids.length cck)
    have HR7 := hideK (HR6.out.ev HXB6.out.1 hbut)
    have HE7 := hideK (HE6.out.car kC cal ccl cak cck)
    have HXB7 := hideK (show xb ≤ xb ∧ xb < (((((w6.setCell ⟨xb, 4, none⟩ (.int .i64 kC.kind)).setCell ⟨xb, 5, none⟩ (.int .i64 kC.so)).setCell ⟨xb, 6, none⟩ (.string kC.name)).setCell ⟨xb, 7, none⟩ (.slice cal kC.labels.length ccl)).setCell ⟨xb, 8, none⟩ (.slice cak kC.kids.length cck)).heap.size from ⟨Nat.le_refl _, by simp; exact HXB6.out.2⟩)
    have hbel := hbut.bel (B := xb) (Nat.le_of_lt HXB6.out.2) (Nat.le_refl _) (Nat.le_refl _) (Nat.le_refl _)
    have HCL := hideK (And.intro ((NAt.keep hbel HCL6.out.1).mono (Nat.le_of_lt HXB7.out.2)) ((KT.keep hbel HCL6.out.2).mono (Nat.le_of_lt HXB7.out.2)))
    clear hbut hbel HCL6 q0 q1 q2 q3 q4
    clear x0 x1 x2 x3 x4 y0 y1 y2 y3 y4 e0 e1 e2 e3 e4 e5 e6 e7 e8 e9 ef HR6 HE6 HFE6 HXB6
    generalize ((((w6.setCell ⟨xb, 4, none⟩ (.int .i64 kC.kind)).setCell ⟨xb, 5, none⟩ (.int .i64 kC.so)).setCell ⟨xb, 6, none⟩ (.string kC.name)).setCell ⟨xb, 7, none⟩ (.slice cal kC.labels.length ccl)).setCell ⟨xb, 8, none⟩ (.slice cak kC.kids.length cck) = w7 at *
    have c1 := typesCheck_any cd kC cal ccl cak cck w7 HCB.out HCL.out.1 HCL.out.2
    simp only [tyVal] at c1
    obtain ⟨e0, e1, e2, e3, e4, e5, e6, e7, e8, e9⟩ := HE7.out
    go_wp2_with fail
    refine c1.mono ?_
    rintro e w8 ⟨rfl, hb8⟩
    have HR8 := hideK (HR7.out.keep hb8)
    have HE8 := hideK (HE7.out.keep hb8 HXB7.out.2)
    have HC8 := hideK (And.intro ((NAt.keep hb8 HCL.out.1).mono hb8.size) ((KT.keep hb8 HCL.out.2).mono hb8.size))
    clear c1 hb8 e0 e1 e2 e3 e4 e5 e6 e7 e8 e9
    by_cases hcz : chkTy kC = 0
    case neg =>
      have hczb : (chkTy kC != 0) = true := by simpa using hcz
      obtain ⟨e0, e1, e2, e3, e4, e5, e6, e7, e8, e9⟩ := HE8.out
      clear hcz
      go_wp2_with fail
      go_ret
      exact ⟨rfl, HR8.out.m.bl⟩
    have hczb : (chkTy kC != 0) = false := by simpa using hcz
    have hev := HEV.out hcz
    have hgo := HGO.out hcz
    have c2 := take_any (V := vD) (Tabs := AT w) (at_v HT.out) (at_k (W0 := w)) g HI.out.gg ag cg mb mb i (n : Int) 0 cd ⟨A.kind, 0, 0, ⟨#[]⟩, kC, ⟨#[]⟩⟩ cal ccl cak cck w8 HR8.out.m.bl HR8.out.m.m HR8.out.m.ga.gat (by have := HR8.out.m.lo; omega) HI.out.hi ⟨by omega, by omega⟩ (by show (0 : Nat) ≤ _; omega) HCB.out HC8.out.1 HC8.out.2
    unfold TAPost at c2
    simp only [evVal] at c2
    obtain ⟨e0, e1, e2, e3, e4, e5, e6, e7, e8, e9⟩ := HE8.out
    go_wp2_with fail
    refine c2.mono ?_
    rintro e w9 ⟨i', dn', bl', v, z9, rfl, htk, hm9, hbut⟩
    obtain ⟨rfl, rfl, rfl, rfl, rfl⟩ := take_good htk hev hgo
    have HR9 := hideK ((HR8.out.take hm9 hbut).keep (Below.refl _ _).drew)
    clear c2 htk hm9 hbut e0 e1 e2 e3 e4 e5 e6 e7 e8 e9 hev hgo HR8 HE8 HC8 hczb
    obtain ⟨kb, ko, hak, hkQ, kal, kcl, kak, kck, hka, hkb, hkl, kd, hkk⟩ := kp_at HR9.out.x.kp HP.out
    obtain ⟨lb, lo, hbk, hlQ, lal, lcl, lak, lck, hla, hlb, hll, ld, hlk⟩ := kp_at HR9.out.y.kp HQ.out
    first | subst hak | (injection hak with hak; injection hak with h1 h2; have h1 := h1.symm; have h2 := h2.symm; subst h1 h2)
    first | subst hbk | (injection hbk with hbk; injection hbk with h1 h2; have h1 := h1.symm; have h2 := h2.symm; subst h1 h2)
    rw [HAP.out] at hka hkb hkl hkk
    rw [HBP.out] at hla hlb hll hlk
    have hN9 := HR9.out.next hkb hkl hkk hlb hll hlk
    have HN9 := hideK hN9
    have hpz : (1 : Int) < (A.kids.length : Int) := by have := HP.out; omega
    have hqz : (1 : Int) < (Bt.kids.length : Int) := by have := HQ.out; omega
    have hpn : ¬ A.kids = [] := fun q => by have := HP.out; rw [q] at this; simp at this
    have hqn : ¬ Bt.kids = [] := fun q => by have := HQ.out; rw [q] at this; simp at this
    have hS0 : (fun W : World => W.cell? ⟨ox, 4, none⟩ = some (.slice (some ⟨kb, ko, none⟩) A.kids.length ack) ∧ W.cell? ⟨oy, 4, none⟩ = some (.slice (some ⟨lb, lo, none⟩) Bt.kids.length bck) ∧ TyAt W kb (ko + 5) kA kal kcl kak kck ∧ TyAt W lb (lo + 5) kB lal lcl lak lck) w9.drew := ⟨HR9.out.x.a.c4, HR9.out.y.a.c4, by simpa using hka, by simpa using hla⟩
    have HQN := hideK (show kb ≠ w.heap.size ∧ kb ≠ w.heap.size + 1 ∧ lb ≠ w.heap.size ∧ lb ≠ w.heap.size + 1 ∧ ox ≠ w.heap.size ∧ ox ≠ w.heap.size + 1 ∧ oy ≠ w.heap.size ∧ oy ≠ w.heap.size + 1 from by
      have h1 := hkQ.ne ⟨HR9.out.m.lo.1, HR9.out.m.lo.2.1⟩
      have h2 := hlQ.ne ⟨HR9.out.m.lo.1, HR9.out.m.lo.2.1⟩
      have h3 := HR9.out.m.lo
      have h4 := HR9.out.lx
      have h5 := HR9.out.ly
      omega)
    have z0 := HR9.out.m.x.a
    have z1 := HR9.out.m.y.a
    have zf := HR9.out.m.fx
    have zg := HR9.out.m.fy
    clear hka hkb hkl hkk hla hlb hll hlk hkQ hlQ hN9
    go_upto_region 45 with fail
    refine wp_region_held_drew (S := (fun W : World => W.cell? ⟨ox, 4, none⟩ = some (.slice (some ⟨kb, ko, none⟩) A.kids.length ack) ∧ W.cell? ⟨oy, 4, none⟩ = some (.slice (some ⟨lb, lo, none⟩) Bt.kids.length bck) ∧ TyAt W kb (ko + 5) kA kal kcl kak kck ∧ TyAt W lb (lo + 5) kB lal lcl lak lck)) (by as_aux_lemma => kernel_rfl) hS0 (fun hS => ?_)
    generalize w9.drew = V9 at *
    refine wpAnyH_take (i := 0) (v := (.pointer (some ⟨ox, 4, none⟩))) (by rw [List.getElem?_toArray]; rfl) (by as_aux_lemma => kernel_rfl) (by as_aux_lemma => kernel_rfl) (by as_aux_lemma => kernel_rfl) (by exact fun _ _ _ h => h) (Or.inl ⟨by rfl, fun W hW => by go_simp⟩) hS ?_
    simp only [Act.put, List.setIfInBounds_toArray, List.set_cons_zero, List.set_cons_succ]
    refine wpAnyH_take (i := 1) (v := (.slice (some ⟨kb, ko, none⟩) A.kids.length ack)) (by rw [List.getElem?_toArray]; rfl) (by as_aux_lemma => kernel_rfl) (by as_aux_lemma => kernel_rfl) (by as_aux_lemma => kernel_rfl) (by exact fun _ _ _ h => h) (Or.inl ⟨by rfl, fun W hW => by have q0 := hW.1; go_simp⟩) hS ?_
    simp only [Act.put, List.setIfInBounds_toArray, List.set_cons_zero, List.set_cons_succ]
    refine wpAnyH_take (i := 2) (v := (.int .i64 1)) (by rw [List.getElem?_toArray]; rfl) (by as_aux_lemma => kernel_rfl) (by as_aux_lemma => kernel_rfl) (by as_aux_lemma => kernel_rfl) (by exact fun _ _ _ h => h) (Or.inl ⟨by rfl, fun W hW => by go_simp⟩) hS ?_
    simp only [Act.put, List.setIfInBounds_toArray, List.set_cons_zero, List.set_cons_succ]
    refine wpAnyH_take (i := 3) (v := (.pointer (some ⟨kb, ko + 5, none⟩))) (by rw [List.getElem?_toArray]; rfl) (by as_aux_lemma => kernel_rfl) (by as_aux_lemma => kernel_rfl) (by as_aux_lemma => kernel_rfl) (by exact fun _ _ _ h => h) (Or.inl ⟨by rfl, fun W hW => by go_simp⟩) hS ?_
    simp only [Act.put, List.setIfInBounds_toArray, List.set_cons_zero, List.set_cons_succ]
    refine wpAnyH_take (i := 4) (v := (.agg #[.int .i64 kA.kind, .int .i64 kA.so, .string kA.name, .slice kal kA.labels.length kcl, .slice kak kA.kids.length kck])) (by rw [List.getElem?_toArray]; rfl) (by as_aux_lemma => kernel_rfl) (by as_aux_lemma => kernel_rfl) (by as_aux_lemma => kernel_rfl) (by exact fun _ _ _ h => h) (Or.inl ⟨by rfl, fun W hW => by obtain ⟨q0, q1, q2, q3, q4⟩ := hW.2.2.1; go_simp⟩) hS ?_
    simp only [Act.put, List.setIfInBounds_toArray, List.set_cons_zero, List.set_cons_succ]
    refine wpAnyH_take (i := 5) (v := (.pointer (some ⟨oy, 4, none⟩))) (by rw [List.getElem?_toArray]; rfl) (by as_aux_lemma => kernel_rfl) (by as_aux_lemma => kernel_rfl) (by as_aux_lemma => kernel_rfl) (by exact fun _ _ _ h => h) (Or.inl ⟨by rfl, fun W hW => by go_simp⟩) hS ?_
    simp only [Act.put, List.setIfInBounds_toArray, List.set_cons_zero, List.set_cons_succ]
    refine wpAnyH_take (i := 6) (v := (.slice (some ⟨lb, lo, none⟩) Bt.kids.length bck)) (by rw [List.getElem?_toArray]; rfl) (by as_aux_lemma => kernel_rfl) (by as_aux_lemma => kernel_rfl) (by as_aux_lemma => kernel_rfl) (by exact fun _ _ _ h => h) (Or.inl ⟨by rfl, fun W hW => by have q0 := hW.2.1; go_simp⟩) hS ?_
    simp only [Act.put, List.setIfInBounds_toArray, List.set_cons_zero, List.set_cons_succ]
    refine wpAnyH_take (i := 7) (v := (.int .i64 1)) (by rw [List.getElem?_toArray]; rfl) (by as_aux_lemma => kernel_rfl) (by as_aux_lemma => kernel_rfl) (by as_aux_lemma => kernel_rfl) (by exact fun _ _ _ h => h) (Or.inl ⟨by rfl, fun W hW => by go_simp⟩) hS ?_
    simp only [Act.put, List.setIfInBounds_toArray, List.set_cons_zero, List.set_cons_succ]
    refine wpAnyH_take (i := 8) (v := (.pointer (some ⟨lb, lo + 5, none⟩))) (by rw [List.getElem?_toArray]; rfl) (by as_aux_lemma => kernel_rfl) (by as_aux_lemma => kernel_rfl) (by as_aux_lemma => kernel_rfl) (by exact fun _ _ _ h => h) (Or.inl ⟨by rfl, fun W hW => by go_simp⟩) hS ?_
    simp only [Act.put, List.setIfInBounds_toArray, List.set_cons_zero, List.set_cons_succ]
    refine wpAnyH_take (i := 9) (v := (.agg #[.int .i64 kB.kind, .int .i64 kB.so, .string kB.name, .slice lal kB.labels.length lcl, .slice lak kB.kids.length lck])) (by rw [List.getElem?_toArray]; rfl) (by as_aux_lemma => kernel_rfl) (by as_aux_lemma => kernel_rfl) (by as_aux_lemma => kernel_rfl) (by exact fun _ _ _ h => h) (Or.inl ⟨by rfl, fun W hW => by obtain ⟨q0, q1, q2, q3, q4⟩ := hW.2.2.2; go_simp⟩) hS ?_
    simp only [Act.put, List.setIfInBounds_toArray, List.set_cons_zero, List.set_cons_succ]
    obtain ⟨p0, p1, p2, p3, p4⟩ := z0
    obtain ⟨r0, r1, r2, r3, r4⟩ := z1
    simp only [Nat.zero_add] at p1 p2 p3 p4 r1 r2 r3 r4
    have hS1 : (fun W : World => W.cell? ⟨ox, 4, none⟩ = some (.slice (some ⟨kb, ko, none⟩) A.kids.length ack) ∧ W.cell? ⟨oy, 4, none⟩ = some (.slice (some ⟨lb, lo, none⟩) Bt.kids.length bck) ∧ TyAt W kb (ko + 5) kA kal kcl kak kck ∧ TyAt W lb (lo + 5) kB lal lcl lak lck) (st5 V9 w.heap.size 0 (.int .i64 kA.kind) (.int .i64 kA.so) (.string kA.name) (.slice kal kA.labels.length kcl) (.slice kak kA.kids.length kck)) := ⟨(st5_other _ _ _ _ _ _ _ _ _ _ (.inl (by have := HQN.out; omega))).trans hS.1, (st5_other _ _ _ _ _ _ _ _ _ _ (.inl (by have := HQN.out; omega))).trans hS.2.1, tyAt_any (by have := HQN.out; omega) hS.2.2.1, tyAt_any (by have := HQN.out; omega) hS.2.2.2⟩
    have R1 := tyAt_any (W := V9) (b := w.heap.size) (v0 := .int .i64 kA.kind) (v1 := .int .i64 kA.so) (v2 := .string kA.name) (v3 := .slice kal kA.labels.length kcl) (v4 := .slice kak kA.kids.length kck) (by omega) HR9.out.m.y.a
    have zg1 : ∀ o, (st5 V9 w.heap.size 0 (.int .i64 kA.kind) (.int .i64 kA.so) (.string kA.name) (.slice kal kA.labels.length kcl) (.slice kak kA.kids.length kck)).frozen? ⟨w.heap.size + 1, o, none⟩ = false := fun o => by unfold st5; simp only [World.frozen?_setCell]; exact zg o
    refine take_oneHL 10 (AllReadyH.cons (by rw [List.getElem?_toArray]; rfl) (fun K hK => ?_) AllReadyH.nil) (by as_aux_lemma => kernel_rfl)
    go_simp
    refine hK.out _ _ hS1 ?_
    clear hK K hS p0 p1 p2 p3 p4 r0 r1 r2 r3 r4 zf zg hS0 hS1
    intro hS
    try simp only [Act.put, List.setIfInBounds_toArray, List.set_cons_zero, List.set_cons_succ]
    change wpAnyH _ _ _ _ _ _ _ _ (st5 V9 w.heap.size 0 (.int .i64 kA.kind) (.int .i64 kA.so) (.string kA.name) (.slice kal kA.labels.length kcl) (.slice kak kA.kids.length kck))
    change (fun W : World => W.cell? ⟨ox, 4, none⟩ = some (.slice (some ⟨kb, ko, none⟩) A.kids.length ack) ∧ W.cell? ⟨oy, 4, none⟩ = some (.slice (some ⟨lb, lo, none⟩) Bt.kids.length bck) ∧ TyAt W kb (ko + 5) kA kal kcl kak kck ∧ TyAt W lb (lo + 5) kB lal lcl lak lck) (st5 V9 w.heap.size 0 (.int .i64 kA.kind) (.int .i64 kA.so) (.string kA.name) (.slice kal kA.labels.length kcl) (.slice kak kA.kids.length kck)) at hS
    generalize st5 V9 w.heap.size 0 (.int .i64 kA.kind) (.int .i64 kA.so) (.string kA.name) (.slice kal kA.labels.length kcl) (.slice kak kA.kids.length kck) = V1 at *
    obtain ⟨r0, r1, r2, r3, r4⟩ := R1
    simp only [Nat.zero_add] at r1 r2 r3 r4
    have hS2 : (fun W : World => W.cell? ⟨ox, 4, none⟩ = some (.slice (some ⟨kb, ko, none⟩) A.kids.length ack) ∧ W.cell? ⟨oy, 4, none⟩ = some (.slice (some ⟨lb, lo, none⟩) Bt.kids.length bck) ∧ TyAt W kb (ko + 5) kA kal kcl kak kck ∧ TyAt W lb (lo + 5) kB lal lcl lak lck) (st5 V1 (w.heap.size + 1) 0 (.int .i64 kB.kind) (.int .i64 kB.so) (.string kB.name) (.slice lal kB.labels.length lcl) (.slice lak kB.kids.length lck)) := ⟨(st5_other _ _ _ _ _ _ _ _ _ _ (.inl (by have := HQN.out; omega))).trans hS.1, (st5_other _ _ _ _ _ _ _ _ _ _ (.inl (by have := HQN.out; omega))).trans hS.2.1, tyAt_any (by have := HQN.out; omega) hS.2.2.1, tyAt_any (by have := HQN.out; omega) hS.2.2.2⟩
    refine take_oneHL 11 (AllReadyH.cons (by rw [List.getElem?_toArray]; rfl) (fun K hK => ?_) AllReadyH.nil) (by as_aux_lemma => kernel_rfl)
    go_simp
    refine hK.out _ _ hS2 ?_
    clear hK K hS r0 r1 r2 r3 r4 zg1 hS2
    intro hS
    try simp only [Act.put, List.setIfInBounds_toArray, List.set_cons_zero, List.set_cons_succ]
    change wpAnyH _ _ _ _ _ _ _ _ (st5 V1 (w.heap.size + 1) 0 (.int .i64 kB.kind) (.int .i64 kB.so) (.string kB.name) (.slice lal kB.labels.length lcl) (.slice lak kB.kids.length lck))
    clear hS
    generalize st5 V1 (w.heap.size + 1) 0 (.int .i64 kB.kind) (.int .i64 kB.so) (.string kB.name) (.slice lal kB.labels.length lcl) (.slice lak kB.kids.length lck) = V2 at *
    refine wpAnyH_done (by as_aux_lemma => kernel_rfl) ?_ _
    go_wp2_with fail
    exact ⟨⟨n + 1, _, _, kA, kal, kcl, kak, kck, kd, kB, lal, lcl, lak, lck, ld, _, by omega, by go_num, HN9.out, HBN.out⟩, by simp [intOf]; omega⟩
  · have b1 : (A.kind == 1) = false := by rw [hk]; rfl
    have b2 : (A.kind == 2) = false := by rw [hk]; rfl
    have b3 : (A.kind == 3) = false := by rw [hk]; rfl
    have b4 : (A.kind == 4) = false := by rw [hk]; rfl
    have b5 : (A.kind == 5) = false := by rw [hk]; rfl
    have b6 : (A.kind == 6) = true := by rw [hk]; rfl
    have hcA := okN_cases HH.out.ok
    have hcB := okN_cases HH.out.okh
    have hk2 := HH.out.k2
    have hkd := HH.out.kd
    have hna := HH.out.na
    have hnb := HH.out.nb
    have hkj : Bt.kind = (nodeAt h j).kind := HKJ.out
    have hlA := HH.out.la
    have hlB := HH.out.lb
    have hsb := HH.out.sub
    have hlenA : A.kids.length = A.labels.length := by rw [hlA]; omega
    have hlenB : Bt.kids.length = Bt.labels.length := by rw [hlB]; omega
    have hokA : labsOK A.labels = true := by rw [hlA]; rcases hcA with q | q | q | q <;> first | omega | exact q.2.2.1
    have hokB : labsOK Bt.labels = true := by rw [hlB]; rcases hcB with q | q | q | q <;> first | omega | exact q.2.2.1
    have hrA : rises A.labels := by rw [hlA]; exact okN_rises HH.out.ok
    have hnA : 1 ≤ A.labels.length ∧ A.labels.length ≤ 6 := by unfold labsOK at hokA; rw [Bool.and_eq_true, decide_eq_true_eq] at hokA; exact hokA.1
    have hnB : 1 ≤ Bt.labels.length ∧ Bt.labels.length ≤ 6 := by unfold labsOK at hokB; rw [Bool.and_eq_true, decide_eq_true_eq] at hokB; exact hokB.1
    have HSUB := hideK (show ∀ l ∈ Bt.labels, l ∈ A.labels from by rw [if_neg (by omega)] at hsb; exact hsb)
    have HLN := hideK (And.intro hlenA hlenB)
    have HRA := hideK hrA
    have HLA := hideK hlA
    have HKD := hideK hkd
    have HKK := hideK hk
    clear hcA hcB hna hnb hkj hk2 hkd hlA hlB hsb hlenA hlenB hokA hokB hrA
    obtain ⟨fb, fo, hfl, hfQ, hfc⟩ := HR6.out.y.lp.resolve_left (fun q => by have h1 := hnB.1; rw [q] at h1; simp at h1)
    have HFC := hideK hfc
    clear hfc hfQ hk
    subst hfl
    have cP := pick_any z Bt.labels.length w6 HZ1.out (by omega) (by omega)
    obtain ⟨x0, x1, x2, x3, x4⟩ := HR6.out.x.a
    obtain ⟨y0, y1, y2, y3, y4⟩ := HR6.out.y.a
    obtain ⟨e0, e1, e2, e3, e4, e5, e6, e7, e8, e9⟩ := HE6.out
    simp only [Nat.zero_add] at x1 x2 x3 x4 y1 y2 y3 y4
    have ef := HFE6.out
    go_wp2_with fail
    refine cP.mono ?_
    rintro e w6' ⟨⟨q, hn1, rfl⟩, hw⟩
    have hw := hw.symm
    subst hw
    have d9 := HFC.out q hn1
    have hn1z : (q : Int) < (Bt.labels.length : Int) := by omega
    obtain ⟨l, hl⟩ : ∃ l, Bt.labels[q]'hn1 = l := ⟨_, rfl⟩
    rw [hl] at d9
    have HLM := hideK (show l ∈ Bt.labels from hl ▸ List.getElem_mem hn1)
    have HLE := hideK (show Bt.labels[q]? = some l from by rw [List.getElem?_eq_getElem hn1, hl])
    have HL1 := hideK hl
    have HN1 := hideK hn1
    clear cP hl
    go_wp2_with fail
    have HR7 := hideK (HR6.out.ev HXB6.out.1 (lab_but (.string l)))
    have HE7 := hideK (HE6.out.lab l)
    have HXB7 := hideK (show xb ≤ xb ∧ xb < (w6.setCell ⟨xb, 9, none⟩ (.string l)).heap.size from ⟨Nat.le_refl _, by simp; exact HXB6.out.2⟩)
    clear d9 hn1z
    clear x0 x1 x2 x3 x4 y0 y1 y2 y3 y4 e0 e1 e2 e3 e4 e5 e6 e7 e8 e9 ef HR6 HE6 HFE6 HXB6
    generalize w6.setCell ⟨xb, 9, none⟩ (.string l) = w7 at *
    have cI := index_any A.labels l aal acl w7.heap.size w7 (HR7.out.x.lp.la (fun b q => Nat.lt_of_lt_of_le (q.lt HR7.out.lm.1) HR7.out.lm.2)) (by omega)
    rw [show idxZ A.labels l = (idxB A.labels l : Int) from if_pos ((hasN_iff _ _).2 (HSUB.out l HLM.out))] at cI
    have HN2 := hideK (idxB_lt (HSUB.out l HLM.out))
    have HL2 := hideK (show A.labels[idxB A.labels l]? = some l from by rw [List.getElem?_eq_getElem HN2.out, idxB_at HN2.out])
    obtain ⟨p, hn2⟩ : ∃ m9, idxB A.labels l = m9 := ⟨_, rfl⟩
    have HPI := hideK (show idxB A.labels l = p from hn2)
    rw [hn2] at cI
    replace HL2 := hideK (show A.labels[p]? = some l from hn2 ▸ HL2.out)
    replace HN2 := hideK (show p < A.labels.length from hn2 ▸ HN2.out)
    clear hn2
    obtain ⟨x0, x1, x2, x3, x4⟩ := HR7.out.x.a
    obtain ⟨y0, y1, y2, y3, y4⟩ := HR7.out.y.a
    obtain ⟨e0, e1, e2, e3, e4, e5, e6, e7, e8, e9⟩ := HE7.out
    simp only [Nat.zero_add] at x1 x2 x3 x4 y1 y2 y3 y4
    refine cI.mono ?_
    rintro e w7' ⟨rfl, hw⟩
    have hw := hw.symm
    subst hw
    have HP := hideK (show p < A.kids.length from by rw [HLN.out.1]; exact HN2.out)
    have HQ := hideK (show q < Bt.kids.length from by rw [HLN.out.2]; exact HN1.out)
    have HEV := hideK (ev_lab (k := A.kind) (by have := HKK.out; omega) l)
    have HGO := hideK (show goesE g i ⟨A.kind, 0, 0, ⟨#[]⟩, (⟨0, 0, ⟨#[]⟩, [], []⟩ : Ty), l⟩ (toAt (nodeAt g i) p) from ⟨HKD.out.symm, .inr (.inr ⟨(by show A.kind = 6 ∨ A.kind = 7; have := HKK.out; omega), (by show l ∈ _; rw [← HLA.out]; exact HSUB.out l HLM.out), (by show toAt (nodeAt g i) p = toAt (nodeAt g i) (idxB (nodeAt g i).labs l); rw [← HLA.out, HPI.out])⟩)⟩)
    clear cI
    obtain ⟨kA, hkA⟩ : ∃ y9, A.kids[p]'HP.out = y9 := ⟨_, rfl⟩
    obtain ⟨kB, hkB⟩ : ∃ y9, Bt.kids[q]'HQ.out = y9 := ⟨_, rfl⟩
    have hbn := HI.out.lab HUA.out HA8.out HUB.out HB8.out HP.out HQ.out HL2.out HLE.out
    rw [hkA, hkB] at hbn
    have HBN := hideK hbn
    have HAP := hideK hkA
    have HBP := hideK hkB
    clear hbn hkA hkB
    go_upto_region 40 with fail
    clear x0 x1 x2 x3 x4 y0 y1 y2 y3 y4 e0 e1 e2 e3 e4 e5 e6 e7 e8 e9
    have c1 := typesCheck_any 0 (⟨0, 0, ⟨#[]⟩, [], []⟩ : Ty) none 0 none 0 w7 zT_bd (show LA w7 w7.heap.size [] none from .inl rfl) (show KT w7 w7.heap.size 0 [] none from rfl)
    simp only [tyVal] at c1
    obtain ⟨e0, e1, e2, e3, e4, e5, e6, e7, e8, e9⟩ := HE7.out
    go_wp2_with fail
    refine c1.mono ?_
    rintro e w8 ⟨rfl, hb8⟩
    have HR8 := hideK (HR7.out.keep hb8)
    have HE8 := hideK (HE7.out.keep hb8 HXB7.out.2)
    have HC8 := hideK (And.intro ((NAt.keep hb8 (show LA w7 w7.heap.size [] none from .inl rfl)).mono hb8.size) ((KT.keep hb8 (show KT w7 w7.heap.size 0 [] none from rfl)).mono hb8.size))
    clear c1 hb8 e0 e1 e2 e3 e4 e5 e6 e7 e8 e9
    have hczb : (chkTy (⟨0, 0, ⟨#[]⟩, [], []⟩ : Ty) != 0) = true := HZT.out
    have hev := HEV.out
    have hgo := HGO.out
    have c2 := take_any (V := vD) (Tabs := AT w) (at_v HT.out) (at_k (W0 := w)) g HI.out.gg ag cg mb mb i (n : Int) 0 0 ⟨A.kind, 0, 0, ⟨#[]⟩, (⟨0, 0, ⟨#[]⟩, [], []⟩ : Ty), l⟩ none 0 none 0 w8 HR8.out.m.bl HR8.out.m.m HR8.out.m.ga.gat (by have := HR8.out.m.lo; omega) HI.out.hi ⟨by omega, by omega⟩ (by show (0 : Nat) ≤ _; omega) zT_bd HC8.out.1 HC8.out.2
    unfold TAPost at c2
    simp only [evVal] at c2
    obtain ⟨e0, e1, e2, e3, e4, e5, e6, e7, e8, e9⟩ := HE8.out
    go_wp2_with fail
    refine c2.mono ?_
    rintro e w9 ⟨i', dn', bl', v, z9, rfl, htk, hm9, hbut⟩
    obtain ⟨rfl, rfl, rfl, rfl, rfl⟩ := take_good htk hev hgo
    have HR9 := hideK ((HR8.out.take hm9 hbut).keep (Below.refl _ _).drew)
    clear c2 htk hm9 hbut e0 e1 e2 e3 e4 e5 e6 e7 e8 e9 hev hgo HR8 HE8 HC8 hczb
    obtain ⟨kb, ko, hak, hkQ, kal, kcl, kak, kck, hka, hkb, hkl, kd, hkk⟩ := kp_at HR9.out.x.kp HP.out
    obtain ⟨lb, lo, hbk, hlQ, lal, lcl, lak, lck, hla, hlb, hll, ld, hlk⟩ := kp_at HR9.out.y.kp HQ.out
    first | subst hak | (injection hak with hak; injection hak with h1 h2; have h1 := h1.symm; have h2 := h2.symm; subst h1 h2)
    first | subst hbk | (injection hbk with hbk; injection hbk with h1 h2; have h1 := h1.symm; have h2 := h2.symm; subst h1 h2)
    rw [HAP.out] at hka hkb hkl hkk
    rw [HBP.out] at hla hlb hll hlk
    have hN9 := HR9.out.next hkb hkl hkk hlb hll hlk
    have HN9 := hideK hN9
    have hpz : (p : Int) < (A.kids.length : Int) := by have := HP.out; omega
    have hqz : (q : Int) < (Bt.kids.length : Int) := by have := HQ.out; omega
    have hpn : ¬ A.kids = [] := fun q => by have := HP.out; rw [q] at this; simp at this
    have hqn : ¬ Bt.kids = [] := fun q => by have := HQ.out; rw [q] at this; simp at this
    have hS0 : (fun W : World => W.cell? ⟨ox, 4, none⟩ = some (.slice (some ⟨kb, ko, none⟩) A.kids.length ack) ∧ W.cell? ⟨oy, 4, none⟩ = some (.slice (some ⟨lb, lo, none⟩) Bt.kids.length bck) ∧ TyAt W kb (ko + p * 5) kA kal kcl kak kck ∧ TyAt W lb (lo + q * 5) kB lal lcl lak lck) w9.drew := ⟨HR9.out.x.a.c4, HR9.out.y.a.c4, hka, hla⟩
    have HQN := hideK (show kb ≠ w.heap.size ∧ kb ≠ w.heap.size + 1 ∧ lb ≠ w.heap.size ∧ lb ≠ w.heap.size + 1 ∧ ox ≠ w.heap.size ∧ ox ≠ w.heap.size + 1 ∧ oy ≠ w.heap.size ∧ oy ≠ w.heap.size + 1 from by
      have h1 := hkQ.ne ⟨HR9.out.m.lo.1, HR9.out.m.lo.2.1⟩
      have h2 := hlQ.ne ⟨HR9.out.m.lo.1, HR9.out.m.lo.2.1⟩
      have h3 := HR9.out.m.lo
      have h4 := HR9.out.lx
      have h5 := HR9.out.ly
      omega)
    have z0 := HR9.out.m.x.a
    have z1 := HR9.out.m.y.a
    have zf := HR9.out.m.fx
    have zg := HR9.out.m.fy
    clear hka hkb hkl hkk hla hlb hll hlk hkQ hlQ hN9
    go_upto_region 45 with fail
    refine wp_region_held_drew (S := (fun W : World => W.cell? ⟨ox, 4, none⟩ = some (.slice (some ⟨kb, ko, none⟩) A.kids.length ack) ∧ W.cell? ⟨oy, 4, none⟩ = some (.slice (some ⟨lb, lo, none⟩) Bt.kids.length bck) ∧ TyAt W kb (ko + p * 5) kA kal kcl kak kck ∧ TyAt W lb (lo + q * 5) kB lal lcl lak lck)) (by as_aux_lemma => kernel_rfl) hS0 (fun hS => ?_)
    generalize w9.drew = V9 at *
    refine wpAnyH_take (i := 0) (v := (.pointer (some ⟨ox, 4, none⟩))) (by rw [List.getElem?_toArray]; rfl) (by as_aux_lemma => kernel_rfl) (by as_aux_lemma => kernel_rfl) (by as_aux_lemma => kernel_rfl) (by exact fun _ _ _ h => h) (Or.inl ⟨by rfl, fun W hW => by go_simp⟩) hS ?_
    simp only [Act.put, List.setIfInBounds_toArray, List.set_cons_zero, List.set_cons_succ]
    refine wpAnyH_take (i := 1) (v := (.slice (some ⟨kb, ko, none⟩) A.kids.length ack)) (by rw [List.getElem?_toArray]; rfl) (by as_aux_lemma => kernel_rfl) (by as_aux_lemma => kernel_rfl) (by as_aux_lemma => kernel_rfl) (by exact fun _ _ _ h => h) (Or.inl ⟨by rfl, fun W hW => by have q0 := hW.1; go_simp⟩) hS ?_
    simp only [Act.put, List.setIfInBounds_toArray, List.set_cons_zero, List.set_cons_succ]
    refine wpAnyH_take (i := 2) (v := (.int .i64 (p : Int))) (by rw [List.getElem?_toArray]; rfl) (by as_aux_lemma => kernel_rfl) (by as_aux_lemma => kernel_rfl) (by as_aux_lemma => kernel_rfl) (by exact fun _ _ _ h => h) (Or.inl ⟨by rfl, fun W hW => by go_simp⟩) hS ?_
    simp only [Act.put, List.setIfInBounds_toArray, List.set_cons_zero, List.set_cons_succ]
    refine wpAnyH_take (i := 3) (v := (.pointer (some ⟨kb, ko + p * 5, none⟩))) (by rw [List.getElem?_toArray]; rfl) (by as_aux_lemma => kernel_rfl) (by as_aux_lemma => kernel_rfl) (by as_aux_lemma => kernel_rfl) (by exact fun _ _ _ h => h) (Or.inl ⟨by rfl, fun W hW => by go_simp⟩) hS ?_
    simp only [Act.put, List.setIfInBounds_toArray, List.set_cons_zero, List.set_cons_succ]
    refine wpAnyH_take (i := 4) (v := (.agg #[.int .i64 kA.kind, .int .i64 kA.so, .string kA.name, .slice kal kA.labels.length kcl, .slice kak kA.kids.length kck])) (by rw [List.getElem?_toArray]; rfl) (by as_aux_lemma => kernel_rfl) (by as_aux_lemma => kernel_rfl) (by as_aux_lemma => kernel_rfl) (by exact fun _ _ _ h => h) (Or.inl ⟨by rfl, fun W hW => by obtain ⟨q0, q1, q2, q3, q4⟩ := hW.2.2.1; go_simp⟩) hS ?_
    simp only [Act.put, List.setIfInBounds_toArray, List.set_cons_zero, List.set_cons_succ]
    refine wpAnyH_take (i := 5) (v := (.pointer (some ⟨oy, 4, none⟩))) (by rw [List.getElem?_toArray]; rfl) (by as_aux_lemma => kernel_rfl) (by as_aux_lemma => kernel_rfl) (by as_aux_lemma => kernel_rfl) (by exact fun _ _ _ h => h) (Or.inl ⟨by rfl, fun W hW => by go_simp⟩) hS ?_
    simp only [Act.put, List.setIfInBounds_toArray, List.set_cons_zero, List.set_cons_succ]
    refine wpAnyH_take (i := 6) (v := (.slice (some ⟨lb, lo, none⟩) Bt.kids.length bck)) (by rw [List.getElem?_toArray]; rfl) (by as_aux_lemma => kernel_rfl) (by as_aux_lemma => kernel_rfl) (by as_aux_lemma => kernel_rfl) (by exact fun _ _ _ h => h) (Or.inl ⟨by rfl, fun W hW => by have q0 := hW.2.1; go_simp⟩) hS ?_
    simp only [Act.put, List.setIfInBounds_toArray, List.set_cons_zero, List.set_cons_succ]
    refine wpAnyH_take (i := 7) (v := (.int .i64 (q : Int))) (by rw [List.getElem?_toArray]; rfl) (by as_aux_lemma => kernel_rfl) (by as_aux_lemma => kernel_rfl) (by as_aux_lemma => kernel_rfl) (by exact fun _ _ _ h => h) (Or.inl ⟨by rfl, fun W hW => by go_simp⟩) hS ?_
    simp only [Act.put, List.setIfInBounds_toArray, List.set_cons_zero, List.set_cons_succ]
    refine wpAnyH_take (i := 8) (v := (.pointer (some ⟨lb, lo + q * 5, none⟩))) (by rw [List.getElem?_toArray]; rfl) (by as_aux_lemma => kernel_rfl) (by as_aux_lemma => kernel_rfl) (by as_aux_lemma => kernel_rfl) (by exact fun _ _ _ h => h) (Or.inl ⟨by rfl, fun W hW => by go_simp⟩) hS ?_
    simp only [Act.put, List.setIfInBounds_toArray, List.set_cons_zero, List.set_cons_succ]
    refine wpAnyH_take (i := 9) (v := (.agg #[.int .i64 kB.kind, .int .i64 kB.so, .string kB.name, .slice lal kB.labels.length lcl, .slice lak kB.kids.length lck])) (by rw [List.getElem?_toArray]; rfl) (by as_aux_lemma => kernel_rfl) (by as_aux_lemma => kernel_rfl) (by as_aux_lemma => kernel_rfl) (by exact fun _ _ _ h => h) (Or.inl ⟨by rfl, fun W hW => by obtain ⟨q0, q1, q2, q3, q4⟩ := hW.2.2.2; go_simp⟩) hS ?_
    simp only [Act.put, List.setIfInBounds_toArray, List.set_cons_zero, List.set_cons_succ]
    obtain ⟨p0, p1, p2, p3, p4⟩ := z0
    obtain ⟨r0, r1, r2, r3, r4⟩ := z1
    simp only [Nat.zero_add] at p1 p2 p3 p4 r1 r2 r3 r4
    have hS1 : (fun W : World => W.cell? ⟨ox, 4, none⟩ = some (.slice (some ⟨kb, ko, none⟩) A.kids.length ack) ∧ W.cell? ⟨oy, 4, none⟩ = some (.slice (some ⟨lb, lo, none⟩) Bt.kids.length bck) ∧ TyAt W kb (ko + p * 5) kA kal kcl kak kck ∧ TyAt W lb (lo + q * 5) kB lal lcl lak lck) (st5 V9 w.heap.size 0 (.int .i64 kA.kind) (.int .i64 kA.so) (.string kA.name) (.slice kal kA.labels.length kcl) (.slice kak kA.kids.length kck)) := ⟨(st5_other _ _ _ _ _ _ _ _ _ _ (.inl (by have := HQN.out; omega))).trans hS.1, (st5_other _ _ _ _ _ _ _ _ _ _ (.inl (by have := HQN.out; omega))).trans hS.2.1, tyAt_any (by have := HQN.out; omega) hS.2.2.1, tyAt_any (by have := HQN.out; omega) hS.2.2.2⟩
    have R1 := tyAt_any (W := V9) (b := w.heap.size) (v0 := .int .i64 kA.kind) (v1 := .int .i64 kA.so) (v2 := .string kA.name) (v3 := .slice kal kA.labels.length kcl) (v4 := .slice kak kA.kids.length kck) (by omega) HR9.out.m.y.a
    have zg1 : ∀ o, (st5 V9 w.heap.size 0 (.int .i64 kA.kind) (.int .i64 kA.so) (.string kA.name) (.slice kal kA.labels.length kcl) (.slice kak kA.kids.length kck)).frozen? ⟨w.heap.size + 1, o, none⟩ = false := fun o => by unfold st5; simp only [World.frozen?_setCell]; exact zg o
    refine take_oneHL 10 (AllReadyH.cons (by rw [List.getElem?_toArray]; rfl) (fun K hK => ?_) AllReadyH.nil) (by as_aux_lemma => kernel_rfl)
    go_simp
    refine hK.out _ _ hS1 ?_
    clear hK K hS p0 p1 p2 p3 p4 r0 r1 r2 r3 r4 zf zg hS0 hS1
    intro hS
    try simp only [Act.put, List.setIfInBounds_toArray, List.set_cons_zero, List.set_cons_succ]
    change wpAnyH _ _ _ _ _ _ _ _ (st5 V9 w.heap.size 0 (.int .i64 kA.kind) (.int .i64 kA.so) (.string kA.name) (.slice kal kA.labels.length kcl) (.slice kak kA.kids.length kck))
    change (fun W : World => W.cell? ⟨ox, 4, none⟩ = some (.slice (some ⟨kb, ko, none⟩) A.kids.length ack) ∧ W.cell? ⟨oy, 4, none⟩ = some (.slice (some ⟨lb, lo, none⟩) Bt.kids.length bck) ∧ TyAt W kb (ko + p * 5) kA kal kcl kak kck ∧ TyAt W lb (lo + q * 5) kB lal lcl lak lck) (st5 V9 w.heap.size 0 (.int .i64 kA.kind) (.int .i64 kA.so) (.string kA.name) (.slice kal kA.labels.length kcl) (.slice kak kA.kids.length kck)) at hS
    generalize st5 V9 w.heap.size 0 (.int .i64 kA.kind) (.int .i64 kA.so) (.string kA.name) (.slice kal kA.labels.length kcl) (.slice kak kA.kids.length kck) = V1 at *
    obtain ⟨r0, r1, r2, r3, r4⟩ := R1
    simp only [Nat.zero_add] at r1 r2 r3 r4
    have hS2 : (fun W : World => W.cell? ⟨ox, 4, none⟩ = some (.slice (some ⟨kb, ko, none⟩) A.kids.length ack) ∧ W.cell? ⟨oy, 4, none⟩ = some (.slice (some ⟨lb, lo, none⟩) Bt.kids.length bck) ∧ TyAt W kb (ko + p * 5) kA kal kcl kak kck ∧ TyAt W lb (lo + q * 5) kB lal lcl lak lck) (st5 V1 (w.heap.size + 1) 0 (.int .i64 kB.kind) (.int .i64 kB.so) (.string kB.name) (.slice lal kB.labels.length lcl) (.slice lak kB.kids.length lck)) := ⟨(st5_other _ _ _ _ _ _ _ _ _ _ (.inl (by have := HQN.out; omega))).trans hS.1, (st5_other _ _ _ _ _ _ _ _ _ _ (.inl (by have := HQN.out; omega))).trans hS.2.1, tyAt_any (by have := HQN.out; omega) hS.2.2.1, tyAt_any (by have := HQN.out; omega) hS.2.2.2⟩
    refine take_oneHL 11 (AllReadyH.cons (by rw [List.getElem?_toArray]; rfl) (fun K hK => ?_) AllReadyH.nil) (by as_aux_lemma => kernel_rfl)
    go_simp
    refine hK.out _ _ hS2 ?_
    clear hK K hS r0 r1 r2 r3 r4 zg1 hS2
    intro hS
    try simp only [Act.put, List.setIfInBounds_toArray, List.set_cons_zero, List.set_cons_succ]
    change wpAnyH _ _ _ _ _ _ _ _ (st5 V1 (w.heap.size + 1) 0 (.int .i64 kB.kind) (.int .i64 kB.so) (.string kB.name) (.slice lal kB.labels.length lcl) (.slice lak kB.kids.length lck))
    clear hS
    generalize st5 V1 (w.heap.size + 1) 0 (.int .i64 kB.kind) (.int .i64 kB.so) (.string kB.name) (.slice lal kB.labels.length lcl) (.slice lak kB.kids.length lck) = V2 at *
    refine wpAnyH_done (by as_aux_lemma => kernel_rfl) ?_ _
    go_wp2_with fail
    exact ⟨⟨n + 1, _, _, kA, kal, kcl, kak, kck, kd, kB, lal, lcl, lak, lck, ld, _, by omega, by go_num, HN9.out, HBN.out⟩, by simp [intOf]; omega⟩
  · have b1 : (A.kind == 1) = false := by rw [hk]; rfl
    have b2 : (A.kind == 2) = false := by rw [hk]; rfl
    have b3 : (A.kind == 3) = false := by rw [hk]; rfl
    have b4 : (A.kind == 4) = false := by rw [hk]; rfl
    have b5 : (A.kind == 5) = false := by rw [hk]; rfl
    have b6 : (A.kind == 6) = false := by rw [hk]; rfl
    have b7 : (A.kind == 7) = true := by rw [hk]; rfl
    have hcA := okN_cases HH.out.ok
    have hcB := okN_cases HH.out.okh
    have hk2 := HH.out.k2
    have hkd := HH.out.kd
    have hna := HH.out.na
    have hnb := HH.out.nb
    have hkj : Bt.kind = (nodeAt h j).kind := HKJ.out
    have hlA := HH.out.la
    have hlB := HH.out.lb
    have hsb := HH.out.sub
    have hlenA : A.kids.length = A.labels.length := by rw [hlA]; omega
    have hlenB : Bt.kids.length = Bt.labels.length := by rw [hlB]; omega
    have hokA : labsOK A.labels = true := by rw [hlA]; rcases hcA with q | q | q | q <;> first | omega | exact q.2.2.1
    have hokB : labsOK Bt.labels = true := by rw [hlB]; rcases hcB with q | q | q | q <;> first | omega | exact q.2.2.1
    have hrA : rises A.labels := by rw [hlA]; exact okN_rises HH.out.ok
    have hnA : 1 ≤ A.labels.length ∧ A.labels.length ≤ 6 := by unfold labsOK at hokA; rw [Bool.and_eq_true, decide_eq_true_eq] at hokA; exact hokA.1
    have hnB : 1 ≤ Bt.labels.length ∧ Bt.labels.length ≤ 6 := by unfold labsOK at hokB; rw [Bool.and_eq_true, decide_eq_true_eq] at hokB; exact hokB.1
    have HSUB := hideK (show ∀ l ∈ A.labels, l ∈ Bt.labels from by rw [if_pos hk] at hsb; exact hsb)
    have HLN := hideK (And.intro hlenA hlenB)
    have HRA := hideK hrA
    have HLA := hideK hlA
    have HKD := hideK hkd
    have HKK := hideK hk
    clear hcA hcB hna hnb hkj hk2 hkd hlA hlB hsb hlenA hlenB hokA hokB hrA
    obtain ⟨fb, fo, hfl, hfQ, hfc⟩ := HR6.out.x.lp.resolve_left (fun q => by have h1 := hnA.1; rw [q] at h1; simp at h1)
    have HFC := hideK hfc
    clear hfc hfQ hk
    subst hfl
    have cP := pick_any z A.labels.length w6 HZ1.out (by omega) (by omega)
    obtain ⟨x0, x1, x2, x3, x4⟩ := HR6.out.x.a
    obtain ⟨y0, y1, y2, y3, y4⟩ := HR6.out.y.a
    obtain ⟨e0, e1, e2, e3, e4, e5, e6, e7, e8, e9⟩ := HE6.out
    simp only [Nat.zero_add] at x1 x2 x3 x4 y1 y2 y3 y4
    have ef := HFE6.out
    go_wp2_with fail
    refine cP.mono ?_
    rintro e w6' ⟨⟨p, hn1, rfl⟩, hw⟩
    have hw := hw.symm
    subst hw
    have d9 := HFC.out p hn1
    have hn1z : (p : Int) < (A.labels.length : Int) := by omega
    obtain ⟨l, hl⟩ : ∃ l, A.labels[p]'hn1 = l := ⟨_, rfl⟩
    rw [hl] at d9
    have HLM := hideK (show l ∈ A.labels from hl ▸ List.getElem_mem hn1)
    have HLE := hideK (show A.labels[p]? = some l from by rw [List.getElem?_eq_getElem hn1, hl])
    have HL1 := hideK hl
    have HN1 := hideK hn1
    clear cP hl
    go_wp2_with fail
    have HR7 := hideK (HR6.out.ev HXB6.out.1 (lab_but (.string l)))
    have HE7 := hideK (HE6.out.lab l)
    have HXB7 := hideK (show xb ≤ xb ∧ xb < (w6.setCell ⟨xb, 9, none⟩ (.string l)).heap.size from ⟨Nat.le_refl _, by simp; exact HXB6.out.2⟩)
    clear d9 hn1z
    clear x0 x1 x2 x3 x4 y0 y1 y2 y3 y4 e0 e1 e2 e3 e4 e5 e6 e7 e8 e9 ef HR6 HE6 HFE6 HXB6
    generalize w6.setCell ⟨xb, 9, none⟩ (.string l) = w7 at *
    have cI := index_any Bt.labels l bal bcl w7.heap.size w7 (HR7.out.y.lp.la (fun b q => Nat.lt_of_lt_of_le (q.lt HR7.out.lm.1) HR7.out.lm.2)) (by omega)
    rw [show idxZ Bt.labels l = (idxB Bt.labels l : Int) from if_pos ((hasN_iff _ _).2 (HSUB.out l HLM.out))] at cI
    have HN2 := hideK (idxB_lt (HSUB.out l HLM.out))
    have HL2 := hideK (show Bt.labels[idxB Bt.labels l]? = some l from by rw [List.getElem?_eq_getElem HN2.out, idxB_at HN2.out])
    obtain ⟨q, hn2⟩ : ∃ m9, idxB Bt.labels l = m9 := ⟨_, rfl⟩
    have HPI := hideK (show idxB A.labels l = p from rises_inj HRA.out (idxB_lt HLM.out) HN1.out ((idxB_at (idxB_lt HLM.out)).trans HL1.out.symm))
    rw [hn2] at cI
    replace HL2 := hideK (show Bt.labels[q]? = some l from hn2 ▸ HL2.out)
    replace HN2 := hideK (show q < Bt.labels.length from hn2 ▸ HN2.out)
    clear hn2
    obtain ⟨x0, x1, x2, x3, x4⟩ := HR7.out.x.a
    obtain ⟨y0, y1, y2, y3, y4⟩ := HR7.out.y.a
    obtain ⟨e0, e1, e2, e3, e4, e5, e6, e7, e8, e9⟩ := HE7.out
    simp only [Nat.zero_add] at x1 x2 x3 x4 y1 y2 y3 y4
    refine cI.mono ?_
    rintro e w7' ⟨rfl, hw⟩
    have hw := hw.symm
    subst hw
    have HP := hideK (show p < A.kids.length from by rw [HLN.out.1]; exact HN1.out)
    have HQ := hideK (show q < Bt.kids.length from by rw [HLN.out.2]; exact HN2.out)
    have HEV := hideK (ev_lab (k := A.kind) (by have := HKK.out; omega) l)
    have HGO := hideK (show goesE g i ⟨A.kind, 0, 0, ⟨#[]⟩, (⟨0, 0, ⟨#[]⟩, [], []⟩ : Ty), l⟩ (toAt (nodeAt g i) p) from ⟨HKD.out.symm, .inr (.inr ⟨(by show A.kind = 6 ∨ A.kind = 7; have := HKK.out; omega), (by show l ∈ _; rw [← HLA.out]; exact HLM.out), (by show toAt (nodeAt g i) p = toAt (nodeAt g i) (idxB (nodeAt g i).labs l); rw [← HLA.out, HPI.out])⟩)⟩)
    clear cI
    obtain ⟨kA, hkA⟩ : ∃ y9, A.kids[p]'HP.out = y9 := ⟨_, rfl⟩
    obtain ⟨kB, hkB⟩ : ∃ y9, Bt.kids[q]'HQ.out = y9 := ⟨_, rfl⟩
    have hbn := HI.out.lab HUA.out HA8.out HUB.out HB8.out HP.out HQ.out HLE.out HL2.out
    rw [hkA, hkB] at hbn
    have HBN := hideK hbn
    have HAP := hideK hkA
    have HBP := hideK hkB
    clear hbn hkA hkB
    go_upto_region 40 with fail
    clear x0 x1 x2 x3 x4 y0 y1 y2 y3 y4 e0 e1 e2 e3 e4 e5 e6 e7 e8 e9
    have c1 := typesCheck_any 0 (⟨0, 0, ⟨#[]⟩, [], []⟩ : Ty) none 0 none 0 w7 zT_bd (show LA w7 w7.heap.size [] none from .inl rfl) (show KT w7 w7.heap.size 0 [] none from rfl)
    simp only [tyVal] at c1
    obtain ⟨e0, e1, e2, e3, e4, e5, e6, e7, e8, e9⟩ := HE7.out
    go_wp2_with fail
    refine c1.mono ?_
    rintro e w8 ⟨rfl, hb8⟩
    have HR8 := hideK (HR7.out.keep hb8)
    have HE8 := hideK (HE7.out.keep hb8 HXB7.out.2)
    have HC8 := hideK (And.intro ((NAt.keep hb8 (show LA w7 w7.heap.size [] none from .inl rfl)).mono hb8.size) ((KT.keep hb8 (show KT w7 w7.heap.size 0 [] none from rfl)).mono hb8.size))
    clear c1 hb8 e0 e1 e2 e3 e4 e5 e6 e7 e8 e9
    have hczb : (chkTy (⟨0, 0, ⟨#[]⟩, [], []⟩ : Ty) != 0) = true := HZT.out
    have hev := HEV.out
    have hgo := HGO.out
    have c2 := take_any (V := vD) (Tabs := AT w) (at_v HT.out) (at_k (W0 := w)) g HI.out.gg ag cg mb mb i (n : Int) 0 0 ⟨A.kind, 0, 0, ⟨#[]⟩, (⟨0, 0, ⟨#[]⟩, [], []⟩ : Ty), l⟩ none 0 none 0 w8 HR8.out.m.bl HR8.out.m.m HR8.out.m.ga.gat (by have := HR8.out.m.lo; omega) HI.out.hi ⟨by omega, by omega⟩ (by show (0 : Nat) ≤ _; omega) zT_bd HC8.out.1 HC8.out.2
    unfold TAPost at c2
    simp only [evVal] at c2
    obtain ⟨e0, e1, e2, e3, e4, e5, e6, e7, e8, e9⟩ := HE8.out
    go_wp2_with fail
    refine c2.mono ?_
    rintro e w9 ⟨i', dn', bl', v, z9, rfl, htk, hm9, hbut⟩
    obtain ⟨rfl, rfl, rfl, rfl, rfl⟩ := take_good htk hev hgo
    have HR9 := hideK ((HR8.out.take hm9 hbut).keep (Below.refl _ _).drew)
    clear c2 htk hm9 hbut e0 e1 e2 e3 e4 e5 e6 e7 e8 e9 hev hgo HR8 HE8 HC8 hczb
    obtain ⟨kb, ko, hak, hkQ, kal, kcl, kak, kck, hka, hkb, hkl, kd, hkk⟩ := kp_at HR9.out.x.kp HP.out
    obtain ⟨lb, lo, hbk, hlQ, lal, lcl, lak, lck, hla, hlb, hll, ld, hlk⟩ := kp_at HR9.out.y.kp HQ.out
    first | subst hak | (injection hak with hak; injection hak with h1 h2; have h1 := h1.symm; have h2 := h2.symm; subst h1 h2)
    first | subst hbk | (injection hbk with hbk; injection hbk with h1 h2; have h1 := h1.symm; have h2 := h2.symm; subst h1 h2)
    rw [HAP.out] at hka hkb hkl hkk
    rw [HBP.out] at hla hlb hll hlk
    have hN9 := HR9.out.next hkb hkl hkk hlb hll hlk
    have HN9 := hideK hN9
    have hpz : (p : Int) < (A.kids.length : Int) := by have := HP.out; omega
    have hqz : (q : Int) < (Bt.kids.length : Int) := by have := HQ.out; omega
    have hpn : ¬ A.kids = [] := fun q => by have := HP.out; rw [q] at this; simp at this
    have hqn : ¬ Bt.kids = [] := fun q => by have := HQ.out; rw [q] at this; simp at this
    have hS0 : (fun W : World => W.cell? ⟨ox, 4, none⟩ = some (.slice (some ⟨kb, ko, none⟩) A.kids.length ack) ∧ W.cell? ⟨oy, 4, none⟩ = some (.slice (some ⟨lb, lo, none⟩) Bt.kids.length bck) ∧ TyAt W kb (ko + p * 5) kA kal kcl kak kck ∧ TyAt W lb (lo + q * 5) kB lal lcl lak lck) w9.drew := ⟨HR9.out.x.a.c4, HR9.out.y.a.c4, hka, hla⟩
    have HQN := hideK (show kb ≠ w.heap.size ∧ kb ≠ w.heap.size + 1 ∧ lb ≠ w.heap.size ∧ lb ≠ w.heap.size + 1 ∧ ox ≠ w.heap.size ∧ ox ≠ w.heap.size + 1 ∧ oy ≠ w.heap.size ∧ oy ≠ w.heap.size + 1 from by
      have h1 := hkQ.ne ⟨HR9.out.m.lo.1, HR9.out.m.lo.2.1⟩
      have h2 := hlQ.ne ⟨HR9.out.m.lo.1, HR9.out.m.lo.2.1⟩
      have h3 := HR9.out.m.lo
      have h4 := HR9.out.lx
      have h5 := HR9.out.ly
      omega)
    have z0 := HR9.out.m.x.a
    have z1 := HR9.out.m.y.a
    have zf := HR9.out.m.fx
    have zg := HR9.out.m.fy
    clear hka hkb hkl hkk hla hlb hll hlk hkQ hlQ hN9
    go_upto_region 45 with fail
    refine wp_region_held_drew (S := (fun W : World => W.cell? ⟨ox, 4, none⟩ = some (.slice (some ⟨kb, ko, none⟩) A.kids.length ack) ∧ W.cell? ⟨oy, 4, none⟩ = some (.slice (some ⟨lb, lo, none⟩) Bt.kids.length bck) ∧ TyAt W kb (ko + p * 5) kA kal kcl kak kck ∧ TyAt W lb (lo + q * 5) kB lal lcl lak lck)) (by as_aux_lemma => kernel_rfl) hS0 (fun hS => ?_)
    generalize w9.drew = V9 at *
    refine wpAnyH_take (i := 0) (v := (.pointer (some ⟨ox, 4, none⟩))) (by rw [List.getElem?_toArray]; rfl) (by as_aux_lemma => kernel_rfl) (by as_aux_lemma => kernel_rfl) (by as_aux_lemma => kernel_rfl) (by exact fun _ _ _ h => h) (Or.inl ⟨by rfl, fun W hW => by go_simp⟩) hS ?_
    simp only [Act.put, List.setIfInBounds_toArray, List.set_cons_zero, List.set_cons_succ]
    refine wpAnyH_take (i := 1) (v := (.slice (some ⟨kb, ko, none⟩) A.kids.length ack)) (by rw [List.getElem?_toArray]; rfl) (by as_aux_lemma => kernel_rfl) (by as_aux_lemma => kernel_rfl) (by as_aux_lemma => kernel_rfl) (by exact fun _ _ _ h => h) (Or.inl ⟨by rfl, fun W hW => by have q0 := hW.1; go_simp⟩) hS ?_
    simp only [Act.put, List.setIfInBounds_toArray, List.set_cons_zero, List.set_cons_succ]
    refine wpAnyH_take (i := 2) (v := (.int .i64 (p : Int))) (by rw [List.getElem?_toArray]; rfl) (by as_aux_lemma => kernel_rfl) (by as_aux_lemma => kernel_rfl) (by as_aux_lemma => kernel_rfl) (by exact fun _ _ _ h => h) (Or.inl ⟨by rfl, fun W hW => by go_simp⟩) hS ?_
    simp only [Act.put, List.setIfInBounds_toArray, List.set_cons_zero, List.set_cons_succ]
    refine wpAnyH_take (i := 3) (v := (.pointer (some ⟨kb, ko + p * 5, none⟩))) (by rw [List.getElem?_toArray]; rfl) (by as_aux_lemma => kernel_rfl) (by as_aux_lemma => kernel_rfl) (by as_aux_lemma => kernel_rfl) (by exact fun _ _ _ h => h) (Or.inl ⟨by rfl, fun W hW => by go_simp⟩) hS ?_
    simp only [Act.put, List.setIfInBounds_toArray, List.set_cons_zero, List.set_cons_succ]
    refine wpAnyH_take (i := 4) (v := (.agg #[.int .i64 kA.kind, .int .i64 kA.so, .string kA.name, .slice kal kA.labels.length kcl, .slice kak kA.kids.length kck])) (by rw [List.getElem?_toArray]; rfl) (by as_aux_lemma => kernel_rfl) (by as_aux_lemma => kernel_rfl) (by as_aux_lemma => kernel_rfl) (by exact fun _ _ _ h => h) (Or.inl ⟨by rfl, fun W hW => by obtain ⟨q0, q1, q2, q3, q4⟩ := hW.2.2.1; go_simp⟩) hS ?_
    simp only [Act.put, List.setIfInBounds_toArray, List.set_cons_zero, List.set_cons_succ]
    refine wpAnyH_take (i := 5) (v := (.pointer (some ⟨oy, 4, none⟩))) (by rw [List.getElem?_toArray]; rfl) (by as_aux_lemma => kernel_rfl) (by as_aux_lemma => kernel_rfl) (by as_aux_lemma => kernel_rfl) (by exact fun _ _ _ h => h) (Or.inl ⟨by rfl, fun W hW => by go_simp⟩) hS ?_
    simp only [Act.put, List.setIfInBounds_toArray, List.set_cons_zero, List.set_cons_succ]
    refine wpAnyH_take (i := 6) (v := (.slice (some ⟨lb, lo, none⟩) Bt.kids.length bck)) (by rw [List.getElem?_toArray]; rfl) (by as_aux_lemma => kernel_rfl) (by as_aux_lemma => kernel_rfl) (by as_aux_lemma => kernel_rfl) (by exact fun _ _ _ h => h) (Or.inl ⟨by rfl, fun W hW => by have q0 := hW.2.1; go_simp⟩) hS ?_
    simp only [Act.put, List.setIfInBounds_toArray, List.set_cons_zero, List.set_cons_succ]
    refine wpAnyH_take (i := 7) (v := (.int .i64 (q : Int))) (by rw [List.getElem?_toArray]; rfl) (by as_aux_lemma => kernel_rfl) (by as_aux_lemma => kernel_rfl) (by as_aux_lemma => kernel_rfl) (by exact fun _ _ _ h => h) (Or.inl ⟨by rfl, fun W hW => by go_simp⟩) hS ?_
    simp only [Act.put, List.setIfInBounds_toArray, List.set_cons_zero, List.set_cons_succ]
    refine wpAnyH_take (i := 8) (v := (.pointer (some ⟨lb, lo + q * 5, none⟩))) (by rw [List.getElem?_toArray]; rfl) (by as_aux_lemma => kernel_rfl) (by as_aux_lemma => kernel_rfl) (by as_aux_lemma => kernel_rfl) (by exact fun _ _ _ h => h) (Or.inl ⟨by rfl, fun W hW => by go_simp⟩) hS ?_
    simp only [Act.put, List.setIfInBounds_toArray, List.set_cons_zero, List.set_cons_succ]
    refine wpAnyH_take (i := 9) (v := (.agg #[.int .i64 kB.kind, .int .i64 kB.so, .string kB.name, .slice lal kB.labels.length lcl, .slice lak kB.kids.length lck])) (by rw [List.getElem?_toArray]; rfl) (by as_aux_lemma => kernel_rfl) (by as_aux_lemma => kernel_rfl) (by as_aux_lemma => kernel_rfl) (by exact fun _ _ _ h => h) (Or.inl ⟨by rfl, fun W hW => by obtain ⟨q0, q1, q2, q3, q4⟩ := hW.2.2.2; go_simp⟩) hS ?_
    simp only [Act.put, List.setIfInBounds_toArray, List.set_cons_zero, List.set_cons_succ]
    obtain ⟨p0, p1, p2, p3, p4⟩ := z0
    obtain ⟨r0, r1, r2, r3, r4⟩ := z1
    simp only [Nat.zero_add] at p1 p2 p3 p4 r1 r2 r3 r4
    have hS1 : (fun W : World => W.cell? ⟨ox, 4, none⟩ = some (.slice (some ⟨kb, ko, none⟩) A.kids.length ack) ∧ W.cell? ⟨oy, 4, none⟩ = some (.slice (some ⟨lb, lo, none⟩) Bt.kids.length bck) ∧ TyAt W kb (ko + p * 5) kA kal kcl kak kck ∧ TyAt W lb (lo + q * 5) kB lal lcl lak lck) (st5 V9 w.heap.size 0 (.int .i64 kA.kind) (.int .i64 kA.so) (.string kA.name) (.slice kal kA.labels.length kcl) (.slice kak kA.kids.length kck)) := ⟨(st5_other _ _ _ _ _ _ _ _ _ _ (.inl (by have := HQN.out; omega))).trans hS.1, (st5_other _ _ _ _ _ _ _ _ _ _ (.inl (by have := HQN.out; omega))).trans hS.2.1, tyAt_any (by have := HQN.out; omega) hS.2.2.1, tyAt_any (by have := HQN.out; omega) hS.2.2.2⟩
    have R1 := tyAt_any (W := V9) (b := w.heap.size) (v0 := .int .i64 kA.kind) (v1 := .int .i64 kA.so) (v2 := .string kA.name) (v3 := .slice kal kA.labels.length kcl) (v4 := .slice kak kA.kids.length kck) (by omega) HR9.out.m.y.a
    have zg1 : ∀ o, (st5 V9 w.heap.size 0 (.int .i64 kA.kind) (.int .i64 kA.so) (.string kA.name) (.slice kal kA.labels.length kcl) (.slice kak kA.kids.length kck)).frozen? ⟨w.heap.size + 1, o, none⟩ = false := fun o => by unfold st5; simp only [World.frozen?_setCell]; exact zg o
    refine take_oneHL 10 (AllReadyH.cons (by rw [List.getElem?_toArray]; rfl) (fun K hK => ?_) AllReadyH.nil) (by as_aux_lemma => kernel_rfl)
    go_simp
    refine hK.out _ _ hS1 ?_
    clear hK K hS p0 p1 p2 p3 p4 r0 r1 r2 r3 r4 zf zg hS0 hS1
    intro hS
    try simp only [Act.put, List.setIfInBounds_toArray, List.set_cons_zero, List.set_cons_succ]
    change wpAnyH _ _ _ _ _ _ _ _ (st5 V9 w.heap.size 0 (.int .i64 kA.kind) (.int .i64 kA.so) (.string kA.name) (.slice kal kA.labels.length kcl) (.slice kak kA.kids.length kck))
    change (fun W : World => W.cell? ⟨ox, 4, none⟩ = some (.slice (some ⟨kb, ko, none⟩) A.kids.length ack) ∧ W.cell? ⟨oy, 4, none⟩ = some (.slice (some ⟨lb, lo, none⟩) Bt.kids.length bck) ∧ TyAt W kb (ko + p * 5) kA kal kcl kak kck ∧ TyAt W lb (lo + q * 5) kB lal lcl lak lck) (st5 V9 w.heap.size 0 (.int .i64 kA.kind) (.int .i64 kA.so) (.string kA.name) (.slice kal kA.labels.length kcl) (.slice kak kA.kids.length kck)) at hS
    generalize st5 V9 w.heap.size 0 (.int .i64 kA.kind) (.int .i64 kA.so) (.string kA.name) (.slice kal kA.labels.length kcl) (.slice kak kA.kids.length kck) = V1 at *
    obtain ⟨r0, r1, r2, r3, r4⟩ := R1
    simp only [Nat.zero_add] at r1 r2 r3 r4
    have hS2 : (fun W : World => W.cell? ⟨ox, 4, none⟩ = some (.slice (some ⟨kb, ko, none⟩) A.kids.length ack) ∧ W.cell? ⟨oy, 4, none⟩ = some (.slice (some ⟨lb, lo, none⟩) Bt.kids.length bck) ∧ TyAt W kb (ko + p * 5) kA kal kcl kak kck ∧ TyAt W lb (lo + q * 5) kB lal lcl lak lck) (st5 V1 (w.heap.size + 1) 0 (.int .i64 kB.kind) (.int .i64 kB.so) (.string kB.name) (.slice lal kB.labels.length lcl) (.slice lak kB.kids.length lck)) := ⟨(st5_other _ _ _ _ _ _ _ _ _ _ (.inl (by have := HQN.out; omega))).trans hS.1, (st5_other _ _ _ _ _ _ _ _ _ _ (.inl (by have := HQN.out; omega))).trans hS.2.1, tyAt_any (by have := HQN.out; omega) hS.2.2.1, tyAt_any (by have := HQN.out; omega) hS.2.2.2⟩
    refine take_oneHL 11 (AllReadyH.cons (by rw [List.getElem?_toArray]; rfl) (fun K hK => ?_) AllReadyH.nil) (by as_aux_lemma => kernel_rfl)
    go_simp
    refine hK.out _ _ hS2 ?_
    clear hK K hS r0 r1 r2 r3 r4 zg1 hS2
    intro hS
    try simp only [Act.put, List.setIfInBounds_toArray, List.set_cons_zero, List.set_cons_succ]
    change wpAnyH _ _ _ _ _ _ _ _ (st5 V1 (w.heap.size + 1) 0 (.int .i64 kB.kind) (.int .i64 kB.so) (.string kB.name) (.slice lal kB.labels.length lcl) (.slice lak kB.kids.length lck))
    clear hS
    generalize st5 V1 (w.heap.size + 1) 0 (.int .i64 kB.kind) (.int .i64 kB.so) (.string kB.name) (.slice lal kB.labels.length lcl) (.slice lak kB.kids.length lck) = V2 at *
    refine wpAnyH_done (by as_aux_lemma => kernel_rfl) ?_ _
    go_wp2_with fail
    exact ⟨⟨n + 1, _, _, kA, kal, kcl, kak, kck, kd, kB, lal, lcl, lak, lck, ld, _, by omega, by go_num, HN9.out, HBN.out⟩, by simp [intOf]; omega⟩
end Go.Proofs.YthhbbhijpkoelaaDoor
