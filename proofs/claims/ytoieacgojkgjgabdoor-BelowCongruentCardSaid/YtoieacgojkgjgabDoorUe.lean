/-
  The law of duetkeep.BelowCongruent: whatever types are handed in it answers true.
-/
import Derived.Test.YtoieacgojkgjgabDoorUf
namespace Go.Proofs.YtoieacgojkgjgabDoor
open Go.RowKit Go.Shelf

theorem cg_new {w : World} {s : Ty} {sal : Option Addr} {scl : Nat} {sak : Option Addr} {sck : Nat} {t : Ty} {al : Option Addr} {cl : Nat} {ak : Option Addr} {ck : Nat} {W : World} (h : BX2 w s sal scl sak sck t al cl ak ck W) :
    CGW w s sal scl sak sck t al cl ak ck W.heap.size ((W.alloc (.cells #[.int .i64 1, .int .i64 0, .string ⟨#[]⟩, .slice none 0 0, .slice none 0 0] 25)).alloc (.cells #[.func (.func 11) #[] #[], .func (.func 12) #[] #[], .func (.func 13) #[] #[.pointer (some ⟨W.heap.size, 0, none⟩)], .func (.func 14) #[] #[.pointer (some ⟨W.heap.size, 0, none⟩)], .func (.func 15) #[] #[.pointer (some ⟨W.heap.size, 0, none⟩)], .func (.func 16) #[] #[.pointer (some ⟨W.heap.size, 0, none⟩)], .func (.func 17) #[] #[]] 36)) := by
  have hb : ∀ o p, Below W.heap.size W ((W.alloc o).alloc p) := fun o p => ((Below.refl _ _).alloc (Nat.le_refl _) _).alloc (by simp) _
  have h2 := h.keep (hb (.cells #[.int .i64 1, .int .i64 0, .string ⟨#[]⟩, .slice none 0 0, .slice none 0 0] 25) (.cells #[.func (.func 11) #[] #[], .func (.func 12) #[] #[], .func (.func 13) #[] #[.pointer (some ⟨W.heap.size, 0, none⟩)], .func (.func 14) #[] #[.pointer (some ⟨W.heap.size, 0, none⟩)], .func (.func 15) #[] #[.pointer (some ⟨W.heap.size, 0, none⟩)], .func (.func 16) #[] #[.pointer (some ⟨W.heap.size, 0, none⟩)], .func (.func 17) #[] #[]] 36))
  refine ⟨h2.x, h2.y, endAt0 (by go_cell) (by go_cell) (by go_cell) (by go_cell) (by go_cell), fun i hi => ?_, h.lt, by simp, h2.bl⟩
  have : i = 0 ∨ i = 1 ∨ i = 2 ∨ i = 3 ∨ i = 4 ∨ i = 5 ∨ i = 6 := by omega
  rcases this with rfl | rfl | rfl | rfl | rfl | rfl | rfl
  all_goals (simp only [fnA, capA]; go_cell)
theorem fnA_enter (i : Nat) (hi : i < 7) (args : Array Value) (W : World) : Sem.run Tryd.prog (callFunc (fnA i) args) W = .ok (.enter (fnA i) args) W := by
  have : i = 0 ∨ i = 1 ∨ i = 2 ∨ i = 3 ∨ i = 4 ∨ i = 5 ∨ i = 6 := by omega
  rcases this with rfl | rfl | rfl | rfl | rfl | rfl | rfl
  all_goals (simp only [fnA]; go_simp)
theorem bs0 {B n : Nat} : ∀ b ∈ ([] : List Nat), B ≤ b ∧ b < n := fun b hb => by cases hb
theorem bs1 {w : World} {s : Ty} {sal : Option Addr} {scl : Nat} {sak : Option Addr} {sck : Nat} {t : Ty} {al : Option Addr} {cl : Nat} {ak : Option Addr} {ck be : Nat} {V : World} {ox : Nat} (h : CGW w s sal scl sak sck t al cl ak ck be V) (zx : BXZ be V ox) : ∀ b ∈ [ox], w.heap.size ≤ b ∧ b < V.heap.size := fun b hb => by
  rw [List.mem_singleton] at hb
  subst hb
  exact ⟨by have := zx.lo; have := h.lo; omega, zx.lt⟩
theorem bs2 {w : World} {s : Ty} {sal : Option Addr} {scl : Nat} {sak : Option Addr} {sck : Nat} {t : Ty} {al : Option Addr} {cl : Nat} {ak : Option Addr} {ck be : Nat} {V : World} {ox oy : Nat} (h : CGW w s sal scl sak sck t al cl ak ck be V) (zx : BXZ be V ox) (zy : BXZ be V oy) : ∀ b ∈ [ox, oy], w.heap.size ≤ b ∧ b < V.heap.size := fun b hb => by
  rcases List.mem_cons.1 hb with rfl | hb
  · exact ⟨by have := zx.lo; have := h.lo; omega, zx.lt⟩
  · exact bs1 h zy b hb
theorem bsA {w : World} {s : Ty} {sal : Option Addr} {scl : Nat} {sak : Option Addr} {sck : Nat} {t : Ty} {al : Option Addr} {cl : Nat} {ak : Option Addr} {ck be : Nat} {V : World} {ox oy : Nat} (h : CGW w s sal scl sak sck t al cl ak ck be V) (hx : be + 1 < ox) (lx : ox < V.heap.size) (zy : BXZ be V oy) : ∀ b ∈ [ox, oy], w.heap.size ≤ b ∧ b < V.heap.size := fun b hb => by
  rcases List.mem_cons.1 hb with rfl | hb
  · exact ⟨by have := h.lo; omega, lx⟩
  · exact bs1 h zy b hb
theorem bsB {w : World} {s : Ty} {sal : Option Addr} {scl : Nat} {sak : Option Addr} {sck : Nat} {t : Ty} {al : Option Addr} {cl : Nat} {ak : Option Addr} {ck be : Nat} {V : World} {ox oy : Nat} (h : CGW w s sal scl sak sck t al cl ak ck be V) (hx : be + 1 < ox) (lx : ox < V.heap.size) (zy : BXZ be V oy) : ∀ b ∈ [oy, ox], w.heap.size ≤ b ∧ b < V.heap.size := fun b hb => by
  rcases List.mem_cons.1 hb with rfl | hb
  · exact ⟨by have := h.lo; have := zy.lo; omega, zy.lt⟩
  · rw [List.mem_singleton] at hb
    subst hb
    exact ⟨by have := h.lo; omega, lx⟩
def gvT (t : Ty) : Ty := ⟨4, 0, e0B, [], [t, endT]⟩
theorem bt_gv {s t : Ty} {g h g' h' : List Nd} (hg : OFG s g) (hh : OFG t h) (hp : OFG (gvT t) g') (hq : OFG (gvT s) h') : BT (gvT t) (gvT s) ↔ BT s t := by
  obtain ⟨e, he⟩ := OFG_ex end_chk
  exact bt_giveT hg hh he hp hq
theorem tv_row {w V : World} {q : Ty} {al : Option Addr} {cl : Nat} {ak : Option Addr} {ck d : Nat} (hbl : Below w.heap.size w V) (h : TyBd q cl ck ∧ LA w w.heap.size q.labels al ∧ KT w w.heap.size d q.kids ak) (bs : List Nat) (hbs : ∀ b ∈ bs, w.heap.size ≤ b ∧ b < V.heap.size) :
    TV (V.alloc (.cells #[.int .i64 q.kind, .int .i64 q.so, .string q.name, .slice al q.labels.length cl, .slice ak q.kids.length ck, .int .i64 1, .int .i64 0, .string ⟨#[]⟩, .slice none 0 0, .slice none 0 0] 25)) bs (gvT q) none 0 (some ⟨V.heap.size, 0, none⟩) 2 (d + 1) := by
  have hA : Below V.heap.size V (V.alloc (.cells #[.int .i64 q.kind, .int .i64 q.so, .string q.name, .slice al q.labels.length cl, .slice ak q.kids.length ck, .int .i64 1, .int .i64 0, .string ⟨#[]⟩, .slice none 0 0, .slice none 0 0] 25)) := (Below.refl _ _).alloc (Nat.le_refl _) _
  have hP : PB w.heap.size V (V.alloc (.cells #[.int .i64 q.kind, .int .i64 q.so, .string q.name, .slice al q.labels.length cl, .slice ak q.kids.length ck, .int .i64 1, .int .i64 0, .string ⟨#[]⟩, .slice none 0 0, .slice none 0 0] 25)) V.heap.size := .inr ⟨Nat.le_refl _, by simp⟩
  have hk := kp_two hP (tyAt0 (t := q) (al := al) (cl := cl) (ak := ak) (ck := ck) (by go_cell) (by go_cell) (by go_cell) (by go_cell) (by go_cell)) h.1 (lp_old hbl.size hA (h.2.1.keep hbl)) (kp_old hbl.size hA (h.2.2.keep hbl)) (endAt5 (by go_cell) (by go_cell) (by go_cell) (by go_cell) (by go_cell)) end_bd0 (.inl rfl) kp_nil
  exact tv_new bs hbs hbl.size hA.size (ah_bd (by decide) (fun l hl => by cases hl) (by decide) (by simp)) (.inl rfl) hk
set_option maxRecDepth 100000 in
set_option maxHeartbeats 32000000 in
theorem belowCongruent_law (ds dt : Nat) (s t : Ty) (sal : Option Addr) (scl : Nat) (sak : Option Addr) (sck : Nat) (al : Option Addr) (cl : Nat) (ak : Option Addr) (ck : Nat) (w : World) (hs1 : TyBd s scl sck) (hs2 : LA w w.heap.size s.labels sal) (hs3 : KT w w.heap.size ds s.kids sak) (ht1 : TyBd t cl ck) (ht2 : LA w w.heap.size t.labels al) (ht3 : KT w w.heap.size dt t.kids ak) :
    Calls Tryd.prog 4 #[tyVal s sal scl sak sck, tyVal t al cl ak ck] w fun e w' => e = .returned (.bool true) ∧ Below w.heap.size w w' := by
  have Q0 := hideK (BX2.new w s sal scl sak sck t al cl ak ck)
  obtain ⟨x0, x1, x2, x3, x4⟩ := Q0.out.x
  obtain ⟨y0, y1, y2, y3, y4⟩ := Q0.out.y
  simp only [Nat.zero_add] at x1 x2 x3 x4 y1 y2 y3 y4
  have CE := hideK (fun (W : World) => isEnd W)
  by_cases hz : chkTy s = 0 ∧ chkTy t = 0
  · obtain ⟨hzs, hzt⟩ := hz
    have C1 := hideK (fun (W : World) (hb : Below w.heap.size w W) => isGood hzs hzt (is_any ds dt s t sal scl sak sck al cl ak ck W hs1 ((hs2.keep hb).mono hb.size) ((hs3.keep hb).mono hb.size) ht1 ((ht2.keep hb).mono hb.size) ((ht3.keep hb).mono hb.size)))
    have HT := hideK (And.intro ht1 (And.intro ht2 ht3))
    have HS := hideK (And.intro hs1 (And.intro hs2 hs3))
    have HZ := hideK (And.intro hzs hzt)
    simp only [tyVal] at C1 ⊢
    clear hs1 hs2 hs3 ht1 ht2 ht3 hzs hzt
    go_enter Tryd.func4, Tryd.ntmps4
    go_wp2_with fail
    refine (CE.out _).mono ?_
    rintro e w1 ⟨rfl, hb1⟩
    have Q1 := hideK (Q0.out.keep hb1)
    clear hb1 x0 x1 x2 x3 x4 y0 y1 y2 y3 y4
    obtain ⟨x0, x1, x2, x3, x4⟩ := Q1.out.x
    obtain ⟨y0, y1, y2, y3, y4⟩ := Q1.out.y
    simp only [Nat.zero_add] at x1 x2 x3 x4 y1 y2 y3 y4
    go_wp2_with fail
    refine (C1.out _ Q1.out.bl).mono ?_
    rintro e w2 ⟨⟨ok, rfl, hok⟩, hb2⟩
    have G2 := hideK (cg_new (Q1.out.keep hb2))
    have HOK := hideK hok
    clear hb2 hok x0 x1 x2 x3 x4 y0 y1 y2 y3 y4 Q0 Q1 CE C1
    go_wp2_with fail
    go_loopw [50] (fun i wr => ∃ k : Nat, k ≤ 7 ∧ i = .int .i64 (k : Int) ∧ CGW w s sal scl sak sck t al cl ak ck w2.heap.size wr) (fun i _ => 7 - (intOf i).toNat)
    case atStart => exact ⟨0, by omega, rfl, G2.out⟩
    case round =>
      obtain ⟨k, hk7, rfl, hG⟩ := hrel
      have HG := hideK hG
      have HK7 := hideK hk7
      generalize w2.heap.size = be at *
      clear G2 hG
      by_cases hk : k < 7
      · have hkz : (k : Int) < 7 := by omega
        have c0 : wr.cell? ⟨be + 1, k, none⟩ = some (.func (.func (fnA k)) #[] (capA k be)) := HG.out.r k hk
        have hnn : (0 : Int) ≤ (k : Int) := by omega
        have Cx := hideK (fun (V : World) (h : CGW w s sal scl sak sck t al cl ak ck be V) => (show Calls Tryd.prog (fnA k) (#[.agg #[.int .i64 s.kind, .int .i64 s.so, .string s.name, .slice sal s.labels.length scl, .slice sak s.kids.length sck]] ++ capA k be) V (fun e W => (∃ al cl ak ck d, e = .returned (.agg #[.int .i64 (aheadT k s).kind, .int .i64 (aheadT k s).so, .string (aheadT k s).name, .slice al (aheadT k s).labels.length cl, .slice ak (aheadT k s).kids.length ck]) ∧ TyBd (aheadT k s) cl ck ∧ LP W (PB w.heap.size V W) (aheadT k s).labels al ∧ KP W (PB w.heap.size V W) d (aheadT k s).kids ak) ∧ Below V.heap.size V W) from ahead_any k hk s sal scl sak sck ds w.heap.size V HS.out.1 (HS.out.2.1.keep h.bl) (HS.out.2.2.keep h.bl) h.bl.size be h.e (by have := h.lt; omega)))
        have Cy := hideK (fun (V : World) (h : CGW w s sal scl sak sck t al cl ak ck be V) => (show Calls Tryd.prog (fnA k) (#[.agg #[.int .i64 t.kind, .int .i64 t.so, .string t.name, .slice al t.labels.length cl, .slice ak t.kids.length ck]] ++ capA k be) V (fun e W => (∃ al cl ak ck d, e = .returned (.agg #[.int .i64 (aheadT k t).kind, .int .i64 (aheadT k t).so, .string (aheadT k t).name, .slice al (aheadT k t).labels.length cl, .slice ak (aheadT k t).kids.length ck]) ∧ TyBd (aheadT k t) cl ck ∧ LP W (PB w.heap.size V W) (aheadT k t).labels al ∧ KP W (PB w.heap.size V W) d (aheadT k t).kids ak) ∧ Below V.heap.size V W) from ahead_any k hk t al cl ak ck dt w.heap.size V HT.out.1 (HT.out.2.1.keep h.bl) (HT.out.2.2.keep h.bl) h.bl.size be h.e (by have := h.lt; omega)))
        have HBA := hideK (fun (g h g' h' : List Nd) (hg : OFG s g) (hh : OFG t h) (hp : OFG (aheadT k s) g') (hq : OFG (aheadT k t) h') => bt_ahead k hg hh hp hq)
        have HCF := hideK (fun (args : Array Value) (W : World) => fnA_enter k hk args W)
        generalize fnA k = fk at *
        generalize capA k be = cs at *
        generalize aheadT k s = mx at *
        generalize aheadT k t = my at *
        go_upto_region 12 with fail
        go_cut [13, 14] (fun s1 s2 wc => ∃ ox oy ax cx kx nx dx ay cy ky ny dy, s1 = .pointer (some ⟨ox, 0, none⟩) ∧ s2 = .pointer (some ⟨oy, 0, none⟩) ∧ CGW w s sal scl sak sck t al cl ak ck be wc ∧ TYB wc ox mx ax cx kx nx dx ∧ TYB wc oy my ay cy ky ny dy)
        case first =>
          have hS0 : CGW w s sal scl sak sck t al cl ak ck be wr.drew := HG.out.keep ((Below.refl _ _).drew)
          refine wp_region_held_drew (S := CGW w s sal scl sak sck t al cl ak ck be) (by kernel_rfl) hS0 (fun hS => ?_)
          clear hS0 HG c0
          generalize World.drew wr = V0 at *
          refine wpAnyH_take (i := 0) (v := (.func (.func fk) #[] cs)) rfl (by kernel_rfl) (by kernel_rfl) (by kernel_rfl) (fun _ _ _ h => h) (Or.inl ⟨by rfl, fun W hW => by go_simp⟩) hS ?_
          refine wpAnyH_take (i := 1) (v := (.agg #[.int .i64 s.kind, .int .i64 s.so, .string s.name, .slice sal s.labels.length scl, .slice sak s.kids.length sck])) rfl (by kernel_rfl) (by kernel_rfl) (by kernel_rfl) (fun _ _ _ h => h) (Or.inl ⟨by rfl, fun W hW => by obtain ⟨q0, q1, q2, q3, q4⟩ := hW.x; simp only [Nat.zero_add] at q0 q1 q2 q3 q4; go_simp⟩) hS ?_
          refine wpAnyH_take (i := 3) (v := (.func (.func fk) #[] cs)) rfl (by kernel_rfl) (by kernel_rfl) (by kernel_rfl) (fun _ _ _ h => h) (Or.inl ⟨by rfl, fun W hW => by go_simp⟩) hS ?_
          refine wpAnyH_take (i := 4) (v := (.agg #[.int .i64 t.kind, .int .i64 t.so, .string t.name, .slice al t.labels.length cl, .slice ak t.kids.length ck])) rfl (by kernel_rfl) (by kernel_rfl) (by kernel_rfl) (fun _ _ _ h => h) (Or.inl ⟨by rfl, fun W hW => by obtain ⟨q0, q1, q2, q3, q4⟩ := hW.y; simp only [Nat.zero_add] at q0 q1 q2 q3 q4; go_simp⟩) hS ?_
          refine wpAnyH_ready (rs := [2, 6, 7]) (by kernel_rfl) (by simp) (AllReadyH.cons rfl (fun K hK => ?_) (AllReadyH.cons rfl (fun K hK => ?_) (AllReadyH.cons rfl (fun K hK => ?_) AllReadyH.nil)))
          · go_simp
            rw [HCF.out]
            simp only [Oper.upon]
            refine (Cx.out _ hS).mono ?_
            rintro e V1 ⟨⟨ax, cx, kx, nx, dx, rfl, h1, h2, h3⟩, hb⟩
            have hSn := hS.keep hb
            have HVx := hideK (tv_new (B := w.heap.size) [] bs0 hS.bl.size hb.size h1 h2 h3)
            refine hK.out _ _ hSn ?_
            clear hS hK K hSn hb h1 h2 h3
            intro hS
            refine wpAnyH_ready (rs := [5, 6, 7]) (by kernel_rfl) (by simp) (AllReadyH.cons rfl (fun K hK => ?_) (AllReadyH.cons rfl (fun K hK => ?_) (AllReadyH.cons rfl (fun K hK => ?_) AllReadyH.nil)))
            · go_simp
              rw [HCF.out]
              simp only [Oper.upon]
              refine (Cy.out _ hS).mono ?_
              rintro e V2 ⟨⟨ay, cy, ky, ny, dy, rfl, h1, h2, h3⟩, hb⟩
              have hSn := hS.keep hb
              have HVy := hideK (tv_new (B := w.heap.size) [] bs0 hS.bl.size hb.size h1 h2 h3)
              replace HVx := hideK (HVx.out.keep hb)
              refine hK.out _ _ hSn ?_
              clear hS hK K hSn hb h1 h2 h3
              intro hS
              refine wpAnyH_ready (rs := [6, 7]) (by kernel_rfl) (by simp) (AllReadyH.cons rfl (fun K hK => ?_) (AllReadyH.cons rfl (fun K hK => ?_) AllReadyH.nil))
              · go_simp
                have hSn := hS.al (.cells #[.int .i64 0, .int .i64 0, .string ⟨#[]⟩, .slice none 0 0, .slice none 0 0] 25)
                have HZx := hideK (BXZ.new (be := be) hS.lt)
                replace HVx := hideK (HVx.out.box (.cells #[.int .i64 0, .int .i64 0, .string ⟨#[]⟩, .slice none 0 0, .slice none 0 0] 25))
                replace HVy := hideK (HVy.out.box (.cells #[.int .i64 0, .int .i64 0, .string ⟨#[]⟩, .slice none 0 0, .slice none 0 0] 25))
                refine hK.out _ _ hSn ?_
                clear hS hK K hSn
                intro hS
                generalize V2.heap.size = ox at *
                generalize World.alloc V2 (.cells #[.int .i64 0, .int .i64 0, .string ⟨#[]⟩, .slice none 0 0, .slice none 0 0] 25) = V3 at *
                refine take_oneHL 7 (AllReadyH.cons rfl (fun K hK => ?_) AllReadyH.nil) (by kernel_rfl)
                go_simp
                have hSn := hS.al (.cells #[.int .i64 0, .int .i64 0, .string ⟨#[]⟩, .slice none 0 0, .slice none 0 0] 25)
                have HZy := hideK (BXZ.new (be := be) hS.lt)
                have HNE := hideK (show ox ≠ V3.heap.size from by have := HZx.out.lt; omega)
                replace HZx := hideK (HZx.out.al (.cells #[.int .i64 0, .int .i64 0, .string ⟨#[]⟩, .slice none 0 0, .slice none 0 0] 25))
                replace HVx := hideK (HVx.out.box (.cells #[.int .i64 0, .int .i64 0, .string ⟨#[]⟩, .slice none 0 0, .slice none 0 0] 25))
                replace HVy := hideK (HVy.out.box (.cells #[.int .i64 0, .int .i64 0, .string ⟨#[]⟩, .slice none 0 0, .slice none 0 0] 25))
                refine hK.out _ _ hSn ?_
                clear hS hK K hSn
                intro hS
                generalize V3.heap.size = oy at *
                generalize World.alloc V3 (.cells #[.int .i64 0, .int .i64 0, .string ⟨#[]⟩, .slice none 0 0, .slice none 0 0] 25) = V4 at *
                refine take_oneHL 8 (AllReadyH.cons rfl (fun K hK => ?_) AllReadyH.nil) (by kernel_rfl)
                obtain ⟨_, _, z0, z1, z2, z3, z4, zf⟩ := HZx.out
                have f0 := zf 0
                have f1 := zf 1
                have f2 := zf 2
                have f3 := zf 3
                have f4 := zf 4
                clear zf
                have hSn := hS.st (b := ox) HZx.out.lo (.int .i64 mx.kind) (.int .i64 mx.so) (.string mx.name) (.slice ax mx.labels.length cx) (.slice kx mx.kids.length nx)
                have HOX := hideK HZx.out.lo
                have HTX := hideK (HVx.out.st (b := ox) (by simp) (.int .i64 mx.kind) (.int .i64 mx.so) (.string mx.name) (.slice ax mx.labels.length cx) (.slice kx mx.kids.length nx))
                have HTA := hideK (show TyAt (st5 V4 ox 0 (.int .i64 mx.kind) (.int .i64 mx.so) (.string mx.name) (.slice ax mx.labels.length cx) (.slice kx mx.kids.length nx)) ox 0 mx ax cx kx nx from HZx.out.ty mx ax cx kx nx)
                have HLX := hideK (show ox < (st5 V4 ox 0 (.int .i64 mx.kind) (.int .i64 mx.so) (.string mx.name) (.slice ax mx.labels.length cx) (.slice kx mx.kids.length nx)).heap.size from by rw [st5_size]; exact HZx.out.lt)
                replace HZy := hideK (HZy.out.st (b' := ox) HNE.out.symm (.int .i64 mx.kind) (.int .i64 mx.so) (.string mx.name) (.slice ax mx.labels.length cx) (.slice kx mx.kids.length nx))
                replace HVy := hideK (HVy.out.st (b := ox) (by simp) (.int .i64 mx.kind) (.int .i64 mx.so) (.string mx.name) (.slice ax mx.labels.length cx) (.slice kx mx.kids.length nx))
                clear HVx HZx
                go_simp
                refine hK.out _ _ hSn ?_
                clear hS hK K hSn z0 z1 z2 z3 z4 f0 f1 f2 f3 f4
                intro hS
                change wpAnyH _ _ _ _ _ _ _ _ (st5 V4 ox 0 (.int .i64 mx.kind) (.int .i64 mx.so) (.string mx.name) (.slice ax mx.labels.length cx) (.slice kx mx.kids.length nx))
                change CGW _ _ _ _ _ _ _ _ _ _ _ _ (st5 V4 ox 0 (.int .i64 mx.kind) (.int .i64 mx.so) (.string mx.name) (.slice ax mx.labels.length cx) (.slice kx mx.kids.length nx)) at hS
                generalize st5 V4 ox 0 (.int .i64 mx.kind) (.int .i64 mx.so) (.string mx.name) (.slice ax mx.labels.length cx) (.slice kx mx.kids.length nx) = V5 at *
                refine take_oneHL 9 (AllReadyH.cons rfl (fun K hK => ?_) AllReadyH.nil) (by kernel_rfl)
                obtain ⟨_, _, z0, z1, z2, z3, z4, zf⟩ := HZy.out
                have f0 := zf 0
                have f1 := zf 1
                have f2 := zf 2
                have f3 := zf 3
                have f4 := zf 4
                clear zf
                have hSn := hS.st (b := oy) HZy.out.lo (.int .i64 my.kind) (.int .i64 my.so) (.string my.name) (.slice ay my.labels.length cy) (.slice ky my.kids.length ny)
                have HTY := hideK ((HVy.out.st (b := oy) (by simp) (.int .i64 my.kind) (.int .i64 my.so) (.string my.name) (.slice ay my.labels.length cy) (.slice ky my.kids.length ny)).tyb (show TyAt (st5 V5 oy 0 (.int .i64 my.kind) (.int .i64 my.so) (.string my.name) (.slice ay my.labels.length cy) (.slice ky my.kids.length ny)) oy 0 my ay cy ky ny from HZy.out.ty my ay cy ky ny) (by rw [st5_size]; exact HZy.out.lt))
                have HTX2 := hideK ((HTX.out.st (b := oy) (by simp) (.int .i64 my.kind) (.int .i64 my.so) (.string my.name) (.slice ay my.labels.length cy) (.slice ky my.kids.length ny)).tyb (tyAt_st (b := oy) HNE.out (.int .i64 my.kind) (.int .i64 my.so) (.string my.name) (.slice ay my.labels.length cy) (.slice ky my.kids.length ny) HTA.out) (by rw [st5_size]; exact HLX.out))
                clear HVy HZy HTX HTA HLX HOX
                go_simp
                refine hK.out _ _ hSn ?_
                clear hS hK K hSn z0 z1 z2 z3 z4 f0 f1 f2 f3 f4
                intro hS
                change wpAnyH _ _ _ _ _ _ _ _ (st5 V5 oy 0 (.int .i64 my.kind) (.int .i64 my.so) (.string my.name) (.slice ay my.labels.length cy) (.slice ky my.kids.length ny))
                change CGW _ _ _ _ _ _ _ _ _ _ _ _ (st5 V5 oy 0 (.int .i64 my.kind) (.int .i64 my.so) (.string my.name) (.slice ay my.labels.length cy) (.slice ky my.kids.length ny)) at hS
                generalize st5 V5 oy 0 (.int .i64 my.kind) (.int .i64 my.so) (.string my.name) (.slice ay my.labels.length cy) (.slice ky my.kids.length ny) = V6 at *
                refine wpAnyH_done (by kernel_rfl) ?_ _
                go_wp2_with fail
                go_meet
                exact ⟨_, _, _, _, _, _, _, _, _, _, _, _, rfl, rfl, hS, HTX2.out, HTY.out⟩
              · go_simp
                have hSn := hS.al (.cells #[.int .i64 0, .int .i64 0, .string ⟨#[]⟩, .slice none 0 0, .slice none 0 0] 25)
                have HZy := hideK (BXZ.new (be := be) hS.lt)
                replace HVx := hideK (HVx.out.box (.cells #[.int .i64 0, .int .i64 0, .string ⟨#[]⟩, .slice none 0 0, .slice none 0 0] 25))
                replace HVy := hideK (HVy.out.box (.cells #[.int .i64 0, .int .i64 0, .string ⟨#[]⟩, .slice none 0 0, .slice none 0 0] 25))
                refine hK.out _ _ hSn ?_
                clear hS hK K hSn
                intro hS
                generalize V2.heap.size = oy at *
                generalize World.alloc V2 (.cells #[.int .i64 0, .int .i64 0, .string ⟨#[]⟩, .slice none 0 0, .slice none 0 0] 25) = V3 at *
                refine take_oneHL 6 (AllReadyH.cons rfl (fun K hK => ?_) AllReadyH.nil) (by kernel_rfl)
                go_simp
                have hSn := hS.al (.cells #[.int .i64 0, .int .i64 0, .string ⟨#[]⟩, .slice none 0 0, .slice none 0 0] 25)
                have HZx := hideK (BXZ.new (be := be) hS.lt)
                have HNE := hideK (show oy ≠ V3.heap.size from by have := HZy.out.lt; omega)
                replace HZy := hideK (HZy.out.al (.cells #[.int .i64 0, .int .i64 0, .string ⟨#[]⟩, .slice none 0 0, .slice none 0 0] 25))
                replace HVx := hideK (HVx.out.box (.cells #[.int .i64 0, .int .i64 0, .string ⟨#[]⟩, .slice none 0 0, .slice none 0 0] 25))
                replace HVy := hideK (HVy.out.box (.cells #[.int .i64 0, .int .i64 0, .string ⟨#[]⟩, .slice none 0 0, .slice none 0 0] 25))
                refine hK.out _ _ hSn ?_
                clear hS hK K hSn
                intro hS
                generalize V3.heap.size = ox at *
                generalize World.alloc V3 (.cells #[.int .i64 0, .int .i64 0, .string ⟨#[]⟩, .slice none 0 0, .slice none 0 0] 25) = V4 at *
                refine take_oneHL 8 (AllReadyH.cons rfl (fun K hK => ?_) AllReadyH.nil) (by kernel_rfl)
                obtain ⟨_, _, z0, z1, z2, z3, z4, zf⟩ := HZx.out
                have f0 := zf 0
                have f1 := zf 1
                have f2 := zf 2
                have f3 := zf 3
                have f4 := zf 4
                clear zf
                have hSn := hS.st (b := ox) HZx.out.lo (.int .i64 mx.kind) (.int .i64 mx.so) (.string mx.name) (.slice ax mx.labels.length cx) (.slice kx mx.kids.length nx)
                have HOX := hideK HZx.out.lo
                have HTX := hideK (HVx.out.st (b := ox) (by simp) (.int .i64 mx.kind) (.int .i64 mx.so) (.string mx.name) (.slice ax mx.labels.length cx) (.slice kx mx.kids.length nx))
                have HTA := hideK (show TyAt (st5 V4 ox 0 (.int .i64 mx.kind) (.int .i64 mx.so) (.string mx.name) (.slice ax mx.labels.length cx) (.slice kx mx.kids.length nx)) ox 0 mx ax cx kx nx from HZx.out.ty mx ax cx kx nx)
                have HLX := hideK (show ox < (st5 V4 ox 0 (.int .i64 mx.kind) (.int .i64 mx.so) (.string mx.name) (.slice ax mx.labels.length cx) (.slice kx mx.kids.length nx)).heap.size from by rw [st5_size]; exact HZx.out.lt)
                replace HZy := hideK (HZy.out.st (b' := ox) HNE.out (.int .i64 mx.kind) (.int .i64 mx.so) (.string mx.name) (.slice ax mx.labels.length cx) (.slice kx mx.kids.length nx))
                replace HVy := hideK (HVy.out.st (b := ox) (by simp) (.int .i64 mx.kind) (.int .i64 mx.so) (.string mx.name) (.slice ax mx.labels.length cx) (.slice kx mx.kids.length nx))
                clear HVx HZx
                go_simp
                refine hK.out _ _ hSn ?_
                clear hS hK K hSn z0 z1 z2 z3 z4 f0 f1 f2 f3 f4
                intro hS
                change wpAnyH _ _ _ _ _ _ _ _ (st5 V4 ox 0 (.int .i64 mx.kind) (.int .i64 mx.so) (.string mx.name) (.slice ax mx.labels.length cx) (.slice kx mx.kids.length nx))
                change CGW _ _ _ _ _ _ _ _ _ _ _ _ (st5 V4 ox 0 (.int .i64 mx.kind) (.int .i64 mx.so) (.string mx.name) (.slice ax mx.labels.length cx) (.slice kx mx.kids.length nx)) at hS
                generalize st5 V4 ox 0 (.int .i64 mx.kind) (.int .i64 mx.so) (.string mx.name) (.slice ax mx.labels.length cx) (.slice kx mx.kids.length nx) = V5 at *
                refine take_oneHL 9 (AllReadyH.cons rfl (fun K hK => ?_) AllReadyH.nil) (by kernel_rfl)
                obtain ⟨_, _, z0, z1, z2, z3, z4, zf⟩ := HZy.out
                have f0 := zf 0
                have f1 := zf 1
                have f2 := zf 2
                have f3 := zf 3
                have f4 := zf 4
                clear zf
                have hSn := hS.st (b := oy) HZy.out.lo (.int .i64 my.kind) (.int .i64 my.so) (.string my.name) (.slice ay my.labels.length cy) (.slice ky my.kids.length ny)
                have HTY := hideK ((HVy.out.st (b := oy) (by simp) (.int .i64 my.kind) (.int .i64 my.so) (.string my.name) (.slice ay my.labels.length cy) (.slice ky my.kids.length ny)).tyb (show TyAt (st5 V5 oy 0 (.int .i64 my.kind) (.int .i64 my.so) (.string my.name) (.slice ay my.labels.length cy) (.slice ky my.kids.length ny)) oy 0 my ay cy ky ny from HZy.out.ty my ay cy ky ny) (by rw [st5_size]; exact HZy.out.lt))
                have HTX2 := hideK ((HTX.out.st (b := oy) (by simp) (.int .i64 my.kind) (.int .i64 my.so) (.string my.name) (.slice ay my.labels.length cy) (.slice ky my.kids.length ny)).tyb (tyAt_st (b := oy) HNE.out.symm (.int .i64 my.kind) (.int .i64 my.so) (.string my.name) (.slice ay my.labels.length cy) (.slice ky my.kids.length ny) HTA.out) (by rw [st5_size]; exact HLX.out))
                clear HVy HZy HTX HTA HLX HOX
                go_simp
                refine hK.out _ _ hSn ?_
                clear hS hK K hSn z0 z1 z2 z3 z4 f0 f1 f2 f3 f4
                intro hS
                change wpAnyH _ _ _ _ _ _ _ _ (st5 V5 oy 0 (.int .i64 my.kind) (.int .i64 my.so) (.string my.name) (.slice ay my.labels.length cy) (.slice ky my.kids.length ny))
                change CGW _ _ _ _ _ _ _ _ _ _ _ _ (st5 V5 oy 0 (.int .i64 my.kind) (.int .i64 my.so) (.string my.name) (.slice ay my.labels.length cy) (.slice ky my.kids.length ny)) at hS
                generalize st5 V5 oy 0 (.int .i64 my.kind) (.int .i64 my.so) (.string my.name) (.slice ay my.labels.length cy) (.slice ky my.kids.length ny) = V6 at *
                refine wpAnyH_done (by kernel_rfl) ?_ _
                go_wp2_with fail
                go_meet
                exact ⟨_, _, _, _, _, _, _, _, _, _, _, _, rfl, rfl, hS, HTX2.out, HTY.out⟩
            · go_simp
              have hSn := hS.al (.cells #[.int .i64 0, .int .i64 0, .string ⟨#[]⟩, .slice none 0 0, .slice none 0 0] 25)
              have HZx := hideK (BXZ.new (be := be) hS.lt)
              replace HVx := hideK (HVx.out.box (.cells #[.int .i64 0, .int .i64 0, .string ⟨#[]⟩, .slice none 0 0, .slice none 0 0] 25))
              refine hK.out _ _ hSn ?_
              clear hS hK K hSn
              intro hS
              generalize V1.heap.size = ox at *
              generalize World.alloc V1 (.cells #[.int .i64 0, .int .i64 0, .string ⟨#[]⟩, .slice none 0 0, .slice none 0 0] 25) = V2 at *
              refine wpAnyH_ready (rs := [5, 7]) (by kernel_rfl) (by simp) (AllReadyH.cons rfl (fun K hK => ?_) (AllReadyH.cons rfl (fun K hK => ?_) AllReadyH.nil))
              · go_simp
                rw [HCF.out]
                simp only [Oper.upon]
                refine (Cy.out _ hS).mono ?_
                rintro e V3 ⟨⟨ay, cy, ky, ny, dy, rfl, h1, h2, h3⟩, hb⟩
                have hSn := hS.keep hb
                have HVy := hideK (tv_new (B := w.heap.size) [ox] (bs1 hS HZx.out) hS.bl.size hb.size h1 h2 h3)
                replace HZx := hideK (HZx.out.keep hb)
                replace HVx := hideK (HVx.out.keep hb)
                refine hK.out _ _ hSn ?_
                clear hS hK K hSn hb h1 h2 h3
                intro hS
                refine take_oneHL 7 (AllReadyH.cons rfl (fun K hK => ?_) AllReadyH.nil) (by kernel_rfl)
                go_simp
                have hSn := hS.al (.cells #[.int .i64 0, .int .i64 0, .string ⟨#[]⟩, .slice none 0 0, .slice none 0 0] 25)
                have HZy := hideK (BXZ.new (be := be) hS.lt)
                have HNE := hideK (show ox ≠ V3.heap.size from by have := HZx.out.lt; omega)
                replace HZx := hideK (HZx.out.al (.cells #[.int .i64 0, .int .i64 0, .string ⟨#[]⟩, .slice none 0 0, .slice none 0 0] 25))
                replace HVx := hideK (HVx.out.box (.cells #[.int .i64 0, .int .i64 0, .string ⟨#[]⟩, .slice none 0 0, .slice none 0 0] 25))
                replace HVy := hideK (HVy.out.box (.cells #[.int .i64 0, .int .i64 0, .string ⟨#[]⟩, .slice none 0 0, .slice none 0 0] 25))
                refine hK.out _ _ hSn ?_
                clear hS hK K hSn
                intro hS
                generalize V3.heap.size = oy at *
                generalize World.alloc V3 (.cells #[.int .i64 0, .int .i64 0, .string ⟨#[]⟩, .slice none 0 0, .slice none 0 0] 25) = V4 at *
                refine take_oneHL 8 (AllReadyH.cons rfl (fun K hK => ?_) AllReadyH.nil) (by kernel_rfl)
                obtain ⟨_, _, z0, z1, z2, z3, z4, zf⟩ := HZx.out
                have f0 := zf 0
                have f1 := zf 1
                have f2 := zf 2
                have f3 := zf 3
                have f4 := zf 4
                clear zf
                have hSn := hS.st (b := ox) HZx.out.lo (.int .i64 mx.kind) (.int .i64 mx.so) (.string mx.name) (.slice ax mx.labels.length cx) (.slice kx mx.kids.length nx)
                have HOX := hideK HZx.out.lo
                have HTX := hideK (HVx.out.st (b := ox) (by simp) (.int .i64 mx.kind) (.int .i64 mx.so) (.string mx.name) (.slice ax mx.labels.length cx) (.slice kx mx.kids.length nx))
                have HTA := hideK (show TyAt (st5 V4 ox 0 (.int .i64 mx.kind) (.int .i64 mx.so) (.string mx.name) (.slice ax mx.labels.length cx) (.slice kx mx.kids.length nx)) ox 0 mx ax cx kx nx from HZx.out.ty mx ax cx kx nx)
                have HLX := hideK (show ox < (st5 V4 ox 0 (.int .i64 mx.kind) (.int .i64 mx.so) (.string mx.name) (.slice ax mx.labels.length cx) (.slice kx mx.kids.length nx)).heap.size from by rw [st5_size]; exact HZx.out.lt)
                replace HZy := hideK (HZy.out.st (b' := ox) HNE.out.symm (.int .i64 mx.kind) (.int .i64 mx.so) (.string mx.name) (.slice ax mx.labels.length cx) (.slice kx mx.kids.length nx))
                replace HVy := hideK (HVy.out.st (b := ox) (by simp) (.int .i64 mx.kind) (.int .i64 mx.so) (.string mx.name) (.slice ax mx.labels.length cx) (.slice kx mx.kids.length nx))
                clear HVx HZx
                go_simp
                refine hK.out _ _ hSn ?_
                clear hS hK K hSn z0 z1 z2 z3 z4 f0 f1 f2 f3 f4
                intro hS
                change wpAnyH _ _ _ _ _ _ _ _ (st5 V4 ox 0 (.int .i64 mx.kind) (.int .i64 mx.so) (.string mx.name) (.slice ax mx.labels.length cx) (.slice kx mx.kids.length nx))
                change CGW _ _ _ _ _ _ _ _ _ _ _ _ (st5 V4 ox 0 (.int .i64 mx.kind) (.int .i64 mx.so) (.string mx.name) (.slice ax mx.labels.length cx) (.slice kx mx.kids.length nx)) at hS
                generalize st5 V4 ox 0 (.int .i64 mx.kind) (.int .i64 mx.so) (.string mx.name) (.slice ax mx.labels.length cx) (.slice kx mx.kids.length nx) = V5 at *
                refine take_oneHL 9 (AllReadyH.cons rfl (fun K hK => ?_) AllReadyH.nil) (by kernel_rfl)
                obtain ⟨_, _, z0, z1, z2, z3, z4, zf⟩ := HZy.out
                have f0 := zf 0
                have f1 := zf 1
                have f2 := zf 2
                have f3 := zf 3
                have f4 := zf 4
                clear zf
                have hSn := hS.st (b := oy) HZy.out.lo (.int .i64 my.kind) (.int .i64 my.so) (.string my.name) (.slice ay my.labels.length cy) (.slice ky my.kids.length ny)
                have HTY := hideK ((HVy.out.st (b := oy) (by simp) (.int .i64 my.kind) (.int .i64 my.so) (.string my.name) (.slice ay my.labels.length cy) (.slice ky my.kids.length ny)).tyb (show TyAt (st5 V5 oy 0 (.int .i64 my.kind) (.int .i64 my.so) (.string my.name) (.slice ay my.labels.length cy) (.slice ky my.kids.length ny)) oy 0 my ay cy ky ny from HZy.out.ty my ay cy ky ny) (by rw [st5_size]; exact HZy.out.lt))
                have HTX2 := hideK ((HTX.out.st (b := oy) (by simp) (.int .i64 my.kind) (.int .i64 my.so) (.string my.name) (.slice ay my.labels.length cy) (.slice ky my.kids.length ny)).tyb (tyAt_st (b := oy) HNE.out (.int .i64 my.kind) (.int .i64 my.so) (.string my.name) (.slice ay my.labels.length cy) (.slice ky my.kids.length ny) HTA.out) (by rw [st5_size]; exact HLX.out))
                clear HVy HZy HTX HTA HLX HOX
                go_simp
                refine hK.out _ _ hSn ?_
                clear hS hK K hSn z0 z1 z2 z3 z4 f0 f1 f2 f3 f4
                intro hS
                change wpAnyH _ _ _ _ _ _ _ _ (st5 V5 oy 0 (.int .i64 my.kind) (.int .i64 my.so) (.string my.name) (.slice ay my.labels.length cy) (.slice ky my.kids.length ny))
                change CGW _ _ _ _ _ _ _ _ _ _ _ _ (st5 V5 oy 0 (.int .i64 my.kind) (.int .i64 my.so) (.string my.name) (.slice ay my.labels.length cy) (.slice ky my.kids.length ny)) at hS
                generalize st5 V5 oy 0 (.int .i64 my.kind) (.int .i64 my.so) (.string my.name) (.slice ay my.labels.length cy) (.slice ky my.kids.length ny) = V6 at *
                refine wpAnyH_done (by kernel_rfl) ?_ _
                go_wp2_with fail
                go_meet
                exact ⟨_, _, _, _, _, _, _, _, _, _, _, _, rfl, rfl, hS, HTX2.out, HTY.out⟩
              · go_simp
                have hSn := hS.al (.cells #[.int .i64 0, .int .i64 0, .string ⟨#[]⟩, .slice none 0 0, .slice none 0 0] 25)
                have HZy := hideK (BXZ.new (be := be) hS.lt)
                have HNE := hideK (show ox ≠ V2.heap.size from by have := HZx.out.lt; omega)
                replace HZx := hideK (HZx.out.al (.cells #[.int .i64 0, .int .i64 0, .string ⟨#[]⟩, .slice none 0 0, .slice none 0 0] 25))
                replace HVx := hideK (HVx.out.box (.cells #[.int .i64 0, .int .i64 0, .string ⟨#[]⟩, .slice none 0 0, .slice none 0 0] 25))
                refine hK.out _ _ hSn ?_
                clear hS hK K hSn
                intro hS
                generalize V2.heap.size = oy at *
                generalize World.alloc V2 (.cells #[.int .i64 0, .int .i64 0, .string ⟨#[]⟩, .slice none 0 0, .slice none 0 0] 25) = V3 at *
                refine take_oneHL 5 (AllReadyH.cons rfl (fun K hK => ?_) AllReadyH.nil) (by kernel_rfl)
                go_simp
                rw [HCF.out]
                simp only [Oper.upon]
                refine (Cy.out _ hS).mono ?_
                rintro e V4 ⟨⟨ay, cy, ky, ny, dy, rfl, h1, h2, h3⟩, hb⟩
                have hSn := hS.keep hb
                have HVy := hideK (tv_new (B := w.heap.size) [oy, ox] (bs2 hS HZy.out HZx.out) hS.bl.size hb.size h1 h2 h3)
                replace HZx := hideK (HZx.out.keep hb)
                replace HZy := hideK (HZy.out.keep hb)
                replace HVx := hideK (HVx.out.keep hb)
                refine hK.out _ _ hSn ?_
                clear hS hK K hSn hb h1 h2 h3
                intro hS
                refine take_oneHL 8 (AllReadyH.cons rfl (fun K hK => ?_) AllReadyH.nil) (by kernel_rfl)
                obtain ⟨_, _, z0, z1, z2, z3, z4, zf⟩ := HZx.out
                have f0 := zf 0
                have f1 := zf 1
                have f2 := zf 2
                have f3 := zf 3
                have f4 := zf 4
                clear zf
                have hSn := hS.st (b := ox) HZx.out.lo (.int .i64 mx.kind) (.int .i64 mx.so) (.string mx.name) (.slice ax mx.labels.length cx) (.slice kx mx.kids.length nx)
                have HOX := hideK HZx.out.lo
                have HTX := hideK (HVx.out.st (b := ox) (by simp) (.int .i64 mx.kind) (.int .i64 mx.so) (.string mx.name) (.slice ax mx.labels.length cx) (.slice kx mx.kids.length nx))
                have HTA := hideK (show TyAt (st5 V4 ox 0 (.int .i64 mx.kind) (.int .i64 mx.so) (.string mx.name) (.slice ax mx.labels.length cx) (.slice kx mx.kids.length nx)) ox 0 mx ax cx kx nx from HZx.out.ty mx ax cx kx nx)
                have HLX := hideK (show ox < (st5 V4 ox 0 (.int .i64 mx.kind) (.int .i64 mx.so) (.string mx.name) (.slice ax mx.labels.length cx) (.slice kx mx.kids.length nx)).heap.size from by rw [st5_size]; exact HZx.out.lt)
                replace HZy := hideK (HZy.out.st (b' := ox) HNE.out.symm (.int .i64 mx.kind) (.int .i64 mx.so) (.string mx.name) (.slice ax mx.labels.length cx) (.slice kx mx.kids.length nx))
                replace HVy := hideK (HVy.out.st (b := ox) (by simp) (.int .i64 mx.kind) (.int .i64 mx.so) (.string mx.name) (.slice ax mx.labels.length cx) (.slice kx mx.kids.length nx))
                clear HVx HZx
                go_simp
                refine hK.out _ _ hSn ?_
                clear hS hK K hSn z0 z1 z2 z3 z4 f0 f1 f2 f3 f4
                intro hS
                change wpAnyH _ _ _ _ _ _ _ _ (st5 V4 ox 0 (.int .i64 mx.kind) (.int .i64 mx.so) (.string mx.name) (.slice ax mx.labels.length cx) (.slice kx mx.kids.length nx))
                change CGW _ _ _ _ _ _ _ _ _ _ _ _ (st5 V4 ox 0 (.int .i64 mx.kind) (.int .i64 mx.so) (.string mx.name) (.slice ax mx.labels.length cx) (.slice kx mx.kids.length nx)) at hS
                generalize st5 V4 ox 0 (.int .i64 mx.kind) (.int .i64 mx.so) (.string mx.name) (.slice ax mx.labels.length cx) (.slice kx mx.kids.length nx) = V5 at *
                refine take_oneHL 9 (AllReadyH.cons rfl (fun K hK => ?_) AllReadyH.nil) (by kernel_rfl)
                obtain ⟨_, _, z0, z1, z2, z3, z4, zf⟩ := HZy.out
                have f0 := zf 0
                have f1 := zf 1
                have f2 := zf 2
                have f3 := zf 3
                have f4 := zf 4
                clear zf
                have hSn := hS.st (b := oy) HZy.out.lo (.int .i64 my.kind) (.int .i64 my.so) (.string my.name) (.slice ay my.labels.length cy) (.slice ky my.kids.length ny)
                have HTY := hideK ((HVy.out.st (b := oy) (by simp) (.int .i64 my.kind) (.int .i64 my.so) (.string my.name) (.slice ay my.labels.length cy) (.slice ky my.kids.length ny)).tyb (show TyAt (st5 V5 oy 0 (.int .i64 my.kind) (.int .i64 my.so) (.string my.name) (.slice ay my.labels.length cy) (.slice ky my.kids.length ny)) oy 0 my ay cy ky ny from HZy.out.ty my ay cy ky ny) (by rw [st5_size]; exact HZy.out.lt))
                have HTX2 := hideK ((HTX.out.st (b := oy) (by simp) (.int .i64 my.kind) (.int .i64 my.so) (.string my.name) (.slice ay my.labels.length cy) (.slice ky my.kids.length ny)).tyb (tyAt_st (b := oy) HNE.out (.int .i64 my.kind) (.int .i64 my.so) (.string my.name) (.slice ay my.labels.length cy) (.slice ky my.kids.length ny) HTA.out) (by rw [st5_size]; exact HLX.out))
                clear HVy HZy HTX HTA HLX HOX
                go_simp
                refine hK.out _ _ hSn ?_
                clear hS hK K hSn z0 z1 z2 z3 z4 f0 f1 f2 f3 f4
                intro hS
                change wpAnyH _ _ _ _ _ _ _ _ (st5 V5 oy 0 (.int .i64 my.kind) (.int .i64 my.so) (.string my.name) (.slice ay my.labels.length cy) (.slice ky my.kids.length ny))
                change CGW _ _ _ _ _ _ _ _ _ _ _ _ (st5 V5 oy 0 (.int .i64 my.kind) (.int .i64 my.so) (.string my.name) (.slice ay my.labels.length cy) (.slice ky my.kids.length ny)) at hS
                generalize st5 V5 oy 0 (.int .i64 my.kind) (.int .i64 my.so) (.string my.name) (.slice ay my.labels.length cy) (.slice ky my.kids.length ny) = V6 at *
                refine wpAnyH_done (by kernel_rfl) ?_ _
                go_wp2_with fail
                go_meet
                exact ⟨_, _, _, _, _, _, _, _, _, _, _, _, rfl, rfl, hS, HTX2.out, HTY.out⟩
            · go_simp
              have hSn := hS.al (.cells #[.int .i64 0, .int .i64 0, .string ⟨#[]⟩, .slice none 0 0, .slice none 0 0] 25)
              have HZy := hideK (BXZ.new (be := be) hS.lt)
              replace HVx := hideK (HVx.out.box (.cells #[.int .i64 0, .int .i64 0, .string ⟨#[]⟩, .slice none 0 0, .slice none 0 0] 25))
              refine hK.out _ _ hSn ?_
              clear hS hK K hSn
              intro hS
              generalize V1.heap.size = oy at *
              generalize World.alloc V1 (.cells #[.int .i64 0, .int .i64 0, .string ⟨#[]⟩, .slice none 0 0, .slice none 0 0] 25) = V2 at *
              refine wpAnyH_ready (rs := [5, 6]) (by kernel_rfl) (by simp) (AllReadyH.cons rfl (fun K hK => ?_) (AllReadyH.cons rfl (fun K hK => ?_) AllReadyH.nil))
              · go_simp
                rw [HCF.out]
                simp only [Oper.upon]
                refine (Cy.out _ hS).mono ?_
                rintro e V3 ⟨⟨ay, cy, ky, ny, dy, rfl, h1, h2, h3⟩, hb⟩
                have hSn := hS.keep hb
                have HVy := hideK (tv_new (B := w.heap.size) [oy] (bs1 hS HZy.out) hS.bl.size hb.size h1 h2 h3)
                replace HZy := hideK (HZy.out.keep hb)
                replace HVx := hideK (HVx.out.keep hb)
                refine hK.out _ _ hSn ?_
                clear hS hK K hSn hb h1 h2 h3
                intro hS
                refine take_oneHL 6 (AllReadyH.cons rfl (fun K hK => ?_) AllReadyH.nil) (by kernel_rfl)
                go_simp
                have hSn := hS.al (.cells #[.int .i64 0, .int .i64 0, .string ⟨#[]⟩, .slice none 0 0, .slice none 0 0] 25)
                have HZx := hideK (BXZ.new (be := be) hS.lt)
                have HNE := hideK (show oy ≠ V3.heap.size from by have := HZy.out.lt; omega)
                replace HZy := hideK (HZy.out.al (.cells #[.int .i64 0, .int .i64 0, .string ⟨#[]⟩, .slice none 0 0, .slice none 0 0] 25))
                replace HVx := hideK (HVx.out.box (.cells #[.int .i64 0, .int .i64 0, .string ⟨#[]⟩, .slice none 0 0, .slice none 0 0] 25))
                replace HVy := hideK (HVy.out.box (.cells #[.int .i64 0, .int .i64 0, .string ⟨#[]⟩, .slice none 0 0, .slice none 0 0] 25))
                refine hK.out _ _ hSn ?_
                clear hS hK K hSn
                intro hS
                generalize V3.heap.size = ox at *
                generalize World.alloc V3 (.cells #[.int .i64 0, .int .i64 0, .string ⟨#[]⟩, .slice none 0 0, .slice none 0 0] 25) = V4 at *
                refine take_oneHL 8 (AllReadyH.cons rfl (fun K hK => ?_) AllReadyH.nil) (by kernel_rfl)
                obtain ⟨_, _, z0, z1, z2, z3, z4, zf⟩ := HZx.out
                have f0 := zf 0
                have f1 := zf 1
                have f2 := zf 2
                have f3 := zf 3
                have f4 := zf 4
                clear zf
                have hSn := hS.st (b := ox) HZx.out.lo (.int .i64 mx.kind) (.int .i64 mx.so) (.string mx.name) (.slice ax mx.labels.length cx) (.slice kx mx.kids.length nx)
                have HOX := hideK HZx.out.lo
                have HTX := hideK (HVx.out.st (b := ox) (by simp) (.int .i64 mx.kind) (.int .i64 mx.so) (.string mx.name) (.slice ax mx.labels.length cx) (.slice kx mx.kids.length nx))
                have HTA := hideK (show TyAt (st5 V4 ox 0 (.int .i64 mx.kind) (.int .i64 mx.so) (.string mx.name) (.slice ax mx.labels.length cx) (.slice kx mx.kids.length nx)) ox 0 mx ax cx kx nx from HZx.out.ty mx ax cx kx nx)
                have HLX := hideK (show ox < (st5 V4 ox 0 (.int .i64 mx.kind) (.int .i64 mx.so) (.string mx.name) (.slice ax mx.labels.length cx) (.slice kx mx.kids.length nx)).heap.size from by rw [st5_size]; exact HZx.out.lt)
                replace HZy := hideK (HZy.out.st (b' := ox) HNE.out (.int .i64 mx.kind) (.int .i64 mx.so) (.string mx.name) (.slice ax mx.labels.length cx) (.slice kx mx.kids.length nx))
                replace HVy := hideK (HVy.out.st (b := ox) (by simp) (.int .i64 mx.kind) (.int .i64 mx.so) (.string mx.name) (.slice ax mx.labels.length cx) (.slice kx mx.kids.length nx))
                clear HVx HZx
                go_simp
                refine hK.out _ _ hSn ?_
                clear hS hK K hSn z0 z1 z2 z3 z4 f0 f1 f2 f3 f4
                intro hS
                change wpAnyH _ _ _ _ _ _ _ _ (st5 V4 ox 0 (.int .i64 mx.kind) (.int .i64 mx.so) (.string mx.name) (.slice ax mx.labels.length cx) (.slice kx mx.kids.length nx))
                change CGW _ _ _ _ _ _ _ _ _ _ _ _ (st5 V4 ox 0 (.int .i64 mx.kind) (.int .i64 mx.so) (.string mx.name) (.slice ax mx.labels.length cx) (.slice kx mx.kids.length nx)) at hS
                generalize st5 V4 ox 0 (.int .i64 mx.kind) (.int .i64 mx.so) (.string mx.name) (.slice ax mx.labels.length cx) (.slice kx mx.kids.length nx) = V5 at *
                refine take_oneHL 9 (AllReadyH.cons rfl (fun K hK => ?_) AllReadyH.nil) (by kernel_rfl)
                obtain ⟨_, _, z0, z1, z2, z3, z4, zf⟩ := HZy.out
                have f0 := zf 0
                have f1 := zf 1
                have f2 := zf 2
                have f3 := zf 3
                have f4 := zf 4
                clear zf
                have hSn := hS.st (b := oy) HZy.out.lo (.int .i64 my.kind) (.int .i64 my.so) (.string my.name) (.slice ay my.labels.length cy) (.slice ky my.kids.length ny)
                have HTY := hideK ((HVy.out.st (b := oy) (by simp) (.int .i64 my.kind) (.int .i64 my.so) (.string my.name) (.slice ay my.labels.length cy) (.slice ky my.kids.length ny)).tyb (show TyAt (st5 V5 oy 0 (.int .i64 my.kind) (.int .i64 my.so) (.string my.name) (.slice ay my.labels.length cy) (.slice ky my.kids.length ny)) oy 0 my ay cy ky ny from HZy.out.ty my ay cy ky ny) (by rw [st5_size]; exact HZy.out.lt))
                have HTX2 := hideK ((HTX.out.st (b := oy) (by simp) (.int .i64 my.kind) (.int .i64 my.so) (.string my.name) (.slice ay my.labels.length cy) (.slice ky my.kids.length ny)).tyb (tyAt_st (b := oy) HNE.out.symm (.int .i64 my.kind) (.int .i64 my.so) (.string my.name) (.slice ay my.labels.length cy) (.slice ky my.kids.length ny) HTA.out) (by rw [st5_size]; exact HLX.out))
                clear HVy HZy HTX HTA HLX HOX
                go_simp
                refine hK.out _ _ hSn ?_
                clear hS hK K hSn z0 z1 z2 z3 z4 f0 f1 f2 f3 f4
                intro hS
                change wpAnyH _ _ _ _ _ _ _ _ (st5 V5 oy 0 (.int .i64 my.kind) (.int .i64 my.so) (.string my.name) (.slice ay my.labels.length cy) (.slice ky my.kids.length ny))
                change CGW _ _ _ _ _ _ _ _ _ _ _ _ (st5 V5 oy 0 (.int .i64 my.kind) (.int .i64 my.so) (.string my.name) (.slice ay my.labels.length cy) (.slice ky my.kids.length ny)) at hS
                generalize st5 V5 oy 0 (.int .i64 my.kind) (.int .i64 my.so) (.string my.name) (.slice ay my.labels.length cy) (.slice ky my.kids.length ny) = V6 at *
                refine wpAnyH_done (by kernel_rfl) ?_ _
                go_wp2_with fail
                go_meet
                exact ⟨_, _, _, _, _, _, _, _, _, _, _, _, rfl, rfl, hS, HTX2.out, HTY.out⟩
              · go_simp
                have hSn := hS.al (.cells #[.int .i64 0, .int .i64 0, .string ⟨#[]⟩, .slice none 0 0, .slice none 0 0] 25)
                have HZx := hideK (BXZ.new (be := be) hS.lt)
                have HNE := hideK (show oy ≠ V2.heap.size from by have := HZy.out.lt; omega)
                replace HZy := hideK (HZy.out.al (.cells #[.int .i64 0, .int .i64 0, .string ⟨#[]⟩, .slice none 0 0, .slice none 0 0] 25))
                replace HVx := hideK (HVx.out.box (.cells #[.int .i64 0, .int .i64 0, .string ⟨#[]⟩, .slice none 0 0, .slice none 0 0] 25))
                refine hK.out _ _ hSn ?_
                clear hS hK K hSn
                intro hS
                generalize V2.heap.size = ox at *
                generalize World.alloc V2 (.cells #[.int .i64 0, .int .i64 0, .string ⟨#[]⟩, .slice none 0 0, .slice none 0 0] 25) = V3 at *
                refine take_oneHL 5 (AllReadyH.cons rfl (fun K hK => ?_) AllReadyH.nil) (by kernel_rfl)
                go_simp
                rw [HCF.out]
                simp only [Oper.upon]
                refine (Cy.out _ hS).mono ?_
                rintro e V4 ⟨⟨ay, cy, ky, ny, dy, rfl, h1, h2, h3⟩, hb⟩
                have hSn := hS.keep hb
                have HVy := hideK (tv_new (B := w.heap.size) [ox, oy] (bs2 hS HZx.out HZy.out) hS.bl.size hb.size h1 h2 h3)
                replace HZy := hideK (HZy.out.keep hb)
                replace HZx := hideK (HZx.out.keep hb)
                replace HVx := hideK (HVx.out.keep hb)
                refine hK.out _ _ hSn ?_
                clear hS hK K hSn hb h1 h2 h3
                intro hS
                refine take_oneHL 8 (AllReadyH.cons rfl (fun K hK => ?_) AllReadyH.nil) (by kernel_rfl)
                obtain ⟨_, _, z0, z1, z2, z3, z4, zf⟩ := HZx.out
                have f0 := zf 0
                have f1 := zf 1
                have f2 := zf 2
                have f3 := zf 3
                have f4 := zf 4
                clear zf
                have hSn := hS.st (b := ox) HZx.out.lo (.int .i64 mx.kind) (.int .i64 mx.so) (.string mx.name) (.slice ax mx.labels.length cx) (.slice kx mx.kids.length nx)
                have HOX := hideK HZx.out.lo
                have HTX := hideK (HVx.out.st (b := ox) (by simp) (.int .i64 mx.kind) (.int .i64 mx.so) (.string mx.name) (.slice ax mx.labels.length cx) (.slice kx mx.kids.length nx))
                have HTA := hideK (show TyAt (st5 V4 ox 0 (.int .i64 mx.kind) (.int .i64 mx.so) (.string mx.name) (.slice ax mx.labels.length cx) (.slice kx mx.kids.length nx)) ox 0 mx ax cx kx nx from HZx.out.ty mx ax cx kx nx)
                have HLX := hideK (show ox < (st5 V4 ox 0 (.int .i64 mx.kind) (.int .i64 mx.so) (.string mx.name) (.slice ax mx.labels.length cx) (.slice kx mx.kids.length nx)).heap.size from by rw [st5_size]; exact HZx.out.lt)
                replace HZy := hideK (HZy.out.st (b' := ox) HNE.out (.int .i64 mx.kind) (.int .i64 mx.so) (.string mx.name) (.slice ax mx.labels.length cx) (.slice kx mx.kids.length nx))
                replace HVy := hideK (HVy.out.st (b := ox) (by simp) (.int .i64 mx.kind) (.int .i64 mx.so) (.string mx.name) (.slice ax mx.labels.length cx) (.slice kx mx.kids.length nx))
                clear HVx HZx
                go_simp
                refine hK.out _ _ hSn ?_
                clear hS hK K hSn z0 z1 z2 z3 z4 f0 f1 f2 f3 f4
                intro hS
                change wpAnyH _ _ _ _ _ _ _ _ (st5 V4 ox 0 (.int .i64 mx.kind) (.int .i64 mx.so) (.string mx.name) (.slice ax mx.labels.length cx) (.slice kx mx.kids.length nx))
                change CGW _ _ _ _ _ _ _ _ _ _ _ _ (st5 V4 ox 0 (.int .i64 mx.kind) (.int .i64 mx.so) (.string mx.name) (.slice ax mx.labels.length cx) (.slice kx mx.kids.length nx)) at hS
                generalize st5 V4 ox 0 (.int .i64 mx.kind) (.int .i64 mx.so) (.string mx.name) (.slice ax mx.labels.length cx) (.slice kx mx.kids.length nx) = V5 at *
                refine take_oneHL 9 (AllReadyH.cons rfl (fun K hK => ?_) AllReadyH.nil) (by kernel_rfl)
                obtain ⟨_, _, z0, z1, z2, z3, z4, zf⟩ := HZy.out
                have f0 := zf 0
                have f1 := zf 1
                have f2 := zf 2
                have f3 := zf 3
                have f4 := zf 4
                clear zf
                have hSn := hS.st (b := oy) HZy.out.lo (.int .i64 my.kind) (.int .i64 my.so) (.string my.name) (.slice ay my.labels.length cy) (.slice ky my.kids.length ny)
                have HTY := hideK ((HVy.out.st (b := oy) (by simp) (.int .i64 my.kind) (.int .i64 my.so) (.string my.name) (.slice ay my.labels.length cy) (.slice ky my.kids.length ny)).tyb (show TyAt (st5 V5 oy 0 (.int .i64 my.kind) (.int .i64 my.so) (.string my.name) (.slice ay my.labels.length cy) (.slice ky my.kids.length ny)) oy 0 my ay cy ky ny from HZy.out.ty my ay cy ky ny) (by rw [st5_size]; exact HZy.out.lt))
                have HTX2 := hideK ((HTX.out.st (b := oy) (by simp) (.int .i64 my.kind) (.int .i64 my.so) (.string my.name) (.slice ay my.labels.length cy) (.slice ky my.kids.length ny)).tyb (tyAt_st (b := oy) HNE.out.symm (.int .i64 my.kind) (.int .i64 my.so) (.string my.name) (.slice ay my.labels.length cy) (.slice ky my.kids.length ny) HTA.out) (by rw [st5_size]; exact HLX.out))
                clear HVy HZy HTX HTA HLX HOX
                go_simp
                refine hK.out _ _ hSn ?_
                clear hS hK K hSn z0 z1 z2 z3 z4 f0 f1 f2 f3 f4
                intro hS
                change wpAnyH _ _ _ _ _ _ _ _ (st5 V5 oy 0 (.int .i64 my.kind) (.int .i64 my.so) (.string my.name) (.slice ay my.labels.length cy) (.slice ky my.kids.length ny))
                change CGW _ _ _ _ _ _ _ _ _ _ _ _ (st5 V5 oy 0 (.int .i64 my.kind) (.int .i64 my.so) (.string my.name) (.slice ay my.labels.length cy) (.slice ky my.kids.length ny)) at hS
                generalize st5 V5 oy 0 (.int .i64 my.kind) (.int .i64 my.so) (.string my.name) (.slice ay my.labels.length cy) (.slice ky my.kids.length ny) = V6 at *
                refine wpAnyH_done (by kernel_rfl) ?_ _
                go_wp2_with fail
                go_meet
                exact ⟨_, _, _, _, _, _, _, _, _, _, _, _, rfl, rfl, hS, HTX2.out, HTY.out⟩
          · go_simp
            have hSn := hS.al (.cells #[.int .i64 0, .int .i64 0, .string ⟨#[]⟩, .slice none 0 0, .slice none 0 0] 25)
            have HZx := hideK (BXZ.new (be := be) hS.lt)
            refine hK.out _ _ hSn ?_
            clear hS hK K hSn
            intro hS
            generalize V0.heap.size = ox at *
            generalize World.alloc V0 (.cells #[.int .i64 0, .int .i64 0, .string ⟨#[]⟩, .slice none 0 0, .slice none 0 0] 25) = V1 at *
            refine wpAnyH_ready (rs := [2, 7]) (by kernel_rfl) (by simp) (AllReadyH.cons rfl (fun K hK => ?_) (AllReadyH.cons rfl (fun K hK => ?_) AllReadyH.nil))
            · go_simp
              rw [HCF.out]
              simp only [Oper.upon]
              refine (Cx.out _ hS).mono ?_
              rintro e V2 ⟨⟨ax, cx, kx, nx, dx, rfl, h1, h2, h3⟩, hb⟩
              have hSn := hS.keep hb
              have HVx := hideK (tv_new (B := w.heap.size) [ox] (bs1 hS HZx.out) hS.bl.size hb.size h1 h2 h3)
              replace HZx := hideK (HZx.out.keep hb)
              refine hK.out _ _ hSn ?_
              clear hS hK K hSn hb h1 h2 h3
              intro hS
              refine wpAnyH_ready (rs := [5, 7]) (by kernel_rfl) (by simp) (AllReadyH.cons rfl (fun K hK => ?_) (AllReadyH.cons rfl (fun K hK => ?_) AllReadyH.nil))
              · go_simp
                rw [HCF.out]
                simp only [Oper.upon]
                refine (Cy.out _ hS).mono ?_
                rintro e V3 ⟨⟨ay, cy, ky, ny, dy, rfl, h1, h2, h3⟩, hb⟩
                have hSn := hS.keep hb
                have HVy := hideK (tv_new (B := w.heap.size) [ox] (bs1 hS HZx.out) hS.bl.size hb.size h1 h2 h3)
                replace HZx := hideK (HZx.out.keep hb)
                replace HVx := hideK (HVx.out.keep hb)
                refine hK.out _ _ hSn ?_
                clear hS hK K hSn hb h1 h2 h3
                intro hS
                refine take_oneHL 7 (AllReadyH.cons rfl (fun K hK => ?_) AllReadyH.nil) (by kernel_rfl)
                go_simp
                have hSn := hS.al (.cells #[.int .i64 0, .int .i64 0, .string ⟨#[]⟩, .slice none 0 0, .slice none 0 0] 25)
                have HZy := hideK (BXZ.new (be := be) hS.lt)
                have HNE := hideK (show ox ≠ V3.heap.size from by have := HZx.out.lt; omega)
                replace HZx := hideK (HZx.out.al (.cells #[.int .i64 0, .int .i64 0, .string ⟨#[]⟩, .slice none 0 0, .slice none 0 0] 25))
                replace HVx := hideK (HVx.out.box (.cells #[.int .i64 0, .int .i64 0, .string ⟨#[]⟩, .slice none 0 0, .slice none 0 0] 25))
                replace HVy := hideK (HVy.out.box (.cells #[.int .i64 0, .int .i64 0, .string ⟨#[]⟩, .slice none 0 0, .slice none 0 0] 25))
                refine hK.out _ _ hSn ?_
                clear hS hK K hSn
                intro hS
                generalize V3.heap.size = oy at *
                generalize World.alloc V3 (.cells #[.int .i64 0, .int .i64 0, .string ⟨#[]⟩, .slice none 0 0, .slice none 0 0] 25) = V4 at *
                refine take_oneHL 8 (AllReadyH.cons rfl (fun K hK => ?_) AllReadyH.nil) (by kernel_rfl)
                obtain ⟨_, _, z0, z1, z2, z3, z4, zf⟩ := HZx.out
                have f0 := zf 0
                have f1 := zf 1
                have f2 := zf 2
                have f3 := zf 3
                have f4 := zf 4
                clear zf
                have hSn := hS.st (b := ox) HZx.out.lo (.int .i64 mx.kind) (.int .i64 mx.so) (.string mx.name) (.slice ax mx.labels.length cx) (.slice kx mx.kids.length nx)
                have HOX := hideK HZx.out.lo
                have HTX := hideK (HVx.out.st (b := ox) (by simp) (.int .i64 mx.kind) (.int .i64 mx.so) (.string mx.name) (.slice ax mx.labels.length cx) (.slice kx mx.kids.length nx))
                have HTA := hideK (show TyAt (st5 V4 ox 0 (.int .i64 mx.kind) (.int .i64 mx.so) (.string mx.name) (.slice ax mx.labels.length cx) (.slice kx mx.kids.length nx)) ox 0 mx ax cx kx nx from HZx.out.ty mx ax cx kx nx)
                have HLX := hideK (show ox < (st5 V4 ox 0 (.int .i64 mx.kind) (.int .i64 mx.so) (.string mx.name) (.slice ax mx.labels.length cx) (.slice kx mx.kids.length nx)).heap.size from by rw [st5_size]; exact HZx.out.lt)
                replace HZy := hideK (HZy.out.st (b' := ox) HNE.out.symm (.int .i64 mx.kind) (.int .i64 mx.so) (.string mx.name) (.slice ax mx.labels.length cx) (.slice kx mx.kids.length nx))
                replace HVy := hideK (HVy.out.st (b := ox) (by simp) (.int .i64 mx.kind) (.int .i64 mx.so) (.string mx.name) (.slice ax mx.labels.length cx) (.slice kx mx.kids.length nx))
                clear HVx HZx
                go_simp
                refine hK.out _ _ hSn ?_
                clear hS hK K hSn z0 z1 z2 z3 z4 f0 f1 f2 f3 f4
                intro hS
                change wpAnyH _ _ _ _ _ _ _ _ (st5 V4 ox 0 (.int .i64 mx.kind) (.int .i64 mx.so) (.string mx.name) (.slice ax mx.labels.length cx) (.slice kx mx.kids.length nx))
                change CGW _ _ _ _ _ _ _ _ _ _ _ _ (st5 V4 ox 0 (.int .i64 mx.kind) (.int .i64 mx.so) (.string mx.name) (.slice ax mx.labels.length cx) (.slice kx mx.kids.length nx)) at hS
                generalize st5 V4 ox 0 (.int .i64 mx.kind) (.int .i64 mx.so) (.string mx.name) (.slice ax mx.labels.length cx) (.slice kx mx.kids.length nx) = V5 at *
                refine take_oneHL 9 (AllReadyH.cons rfl (fun K hK => ?_) AllReadyH.nil) (by kernel_rfl)
                obtain ⟨_, _, z0, z1, z2, z3, z4, zf⟩ := HZy.out
                have f0 := zf 0
                have f1 := zf 1
                have f2 := zf 2
                have f3 := zf 3
                have f4 := zf 4
                clear zf
                have hSn := hS.st (b := oy) HZy.out.lo (.int .i64 my.kind) (.int .i64 my.so) (.string my.name) (.slice ay my.labels.length cy) (.slice ky my.kids.length ny)
                have HTY := hideK ((HVy.out.st (b := oy) (by simp) (.int .i64 my.kind) (.int .i64 my.so) (.string my.name) (.slice ay my.labels.length cy) (.slice ky my.kids.length ny)).tyb (show TyAt (st5 V5 oy 0 (.int .i64 my.kind) (.int .i64 my.so) (.string my.name) (.slice ay my.labels.length cy) (.slice ky my.kids.length ny)) oy 0 my ay cy ky ny from HZy.out.ty my ay cy ky ny) (by rw [st5_size]; exact HZy.out.lt))
                have HTX2 := hideK ((HTX.out.st (b := oy) (by simp) (.int .i64 my.kind) (.int .i64 my.so) (.string my.name) (.slice ay my.labels.length cy) (.slice ky my.kids.length ny)).tyb (tyAt_st (b := oy) HNE.out (.int .i64 my.kind) (.int .i64 my.so) (.string my.name) (.slice ay my.labels.length cy) (.slice ky my.kids.length ny) HTA.out) (by rw [st5_size]; exact HLX.out))
                clear HVy HZy HTX HTA HLX HOX
                go_simp
                refine hK.out _ _ hSn ?_
                clear hS hK K hSn z0 z1 z2 z3 z4 f0 f1 f2 f3 f4
                intro hS
                change wpAnyH _ _ _ _ _ _ _ _ (st5 V5 oy 0 (.int .i64 my.kind) (.int .i64 my.so) (.string my.name) (.slice ay my.labels.length cy) (.slice ky my.kids.length ny))
                change CGW _ _ _ _ _ _ _ _ _ _ _ _ (st5 V5 oy 0 (.int .i64 my.kind) (.int .i64 my.so) (.string my.name) (.slice ay my.labels.length cy) (.slice ky my.kids.length ny)) at hS
                generalize st5 V5 oy 0 (.int .i64 my.kind) (.int .i64 my.so) (.string my.name) (.slice ay my.labels.length cy) (.slice ky my.kids.length ny) = V6 at *
                refine wpAnyH_done (by kernel_rfl) ?_ _
                go_wp2_with fail
                go_meet
                exact ⟨_, _, _, _, _, _, _, _, _, _, _, _, rfl, rfl, hS, HTX2.out, HTY.out⟩
              · go_simp
                have hSn := hS.al (.cells #[.int .i64 0, .int .i64 0, .string ⟨#[]⟩, .slice none 0 0, .slice none 0 0] 25)
                have HZy := hideK (BXZ.new (be := be) hS.lt)
                have HNE := hideK (show ox ≠ V2.heap.size from by have := HZx.out.lt; omega)
                replace HZx := hideK (HZx.out.al (.cells #[.int .i64 0, .int .i64 0, .string ⟨#[]⟩, .slice none 0 0, .slice none 0 0] 25))
                replace HVx := hideK (HVx.out.box (.cells #[.int .i64 0, .int .i64 0, .string ⟨#[]⟩, .slice none 0 0, .slice none 0 0] 25))
                refine hK.out _ _ hSn ?_
                clear hS hK K hSn
                intro hS
                generalize V2.heap.size = oy at *
                generalize World.alloc V2 (.cells #[.int .i64 0, .int .i64 0, .string ⟨#[]⟩, .slice none 0 0, .slice none 0 0] 25) = V3 at *
                refine take_oneHL 5 (AllReadyH.cons rfl (fun K hK => ?_) AllReadyH.nil) (by kernel_rfl)
                go_simp
                rw [HCF.out]
                simp only [Oper.upon]
                refine (Cy.out _ hS).mono ?_
                rintro e V4 ⟨⟨ay, cy, ky, ny, dy, rfl, h1, h2, h3⟩, hb⟩
                have hSn := hS.keep hb
                have HVy := hideK (tv_new (B := w.heap.size) [oy, ox] (bs2 hS HZy.out HZx.out) hS.bl.size hb.size h1 h2 h3)
                replace HZx := hideK (HZx.out.keep hb)
                replace HZy := hideK (HZy.out.keep hb)
                replace HVx := hideK (HVx.out.keep hb)
                refine hK.out _ _ hSn ?_
                clear hS hK K hSn hb h1 h2 h3
                intro hS
                refine take_oneHL 8 (AllReadyH.cons rfl (fun K hK => ?_) AllReadyH.nil) (by kernel_rfl)
                obtain ⟨_, _, z0, z1, z2, z3, z4, zf⟩ := HZx.out
                have f0 := zf 0
                have f1 := zf 1
                have f2 := zf 2
                have f3 := zf 3
                have f4 := zf 4
                clear zf
                have hSn := hS.st (b := ox) HZx.out.lo (.int .i64 mx.kind) (.int .i64 mx.so) (.string mx.name) (.slice ax mx.labels.length cx) (.slice kx mx.kids.length nx)
                have HOX := hideK HZx.out.lo
                have HTX := hideK (HVx.out.st (b := ox) (by simp) (.int .i64 mx.kind) (.int .i64 mx.so) (.string mx.name) (.slice ax mx.labels.length cx) (.slice kx mx.kids.length nx))
                have HTA := hideK (show TyAt (st5 V4 ox 0 (.int .i64 mx.kind) (.int .i64 mx.so) (.string mx.name) (.slice ax mx.labels.length cx) (.slice kx mx.kids.length nx)) ox 0 mx ax cx kx nx from HZx.out.ty mx ax cx kx nx)
                have HLX := hideK (show ox < (st5 V4 ox 0 (.int .i64 mx.kind) (.int .i64 mx.so) (.string mx.name) (.slice ax mx.labels.length cx) (.slice kx mx.kids.length nx)).heap.size from by rw [st5_size]; exact HZx.out.lt)
                replace HZy := hideK (HZy.out.st (b' := ox) HNE.out.symm (.int .i64 mx.kind) (.int .i64 mx.so) (.string mx.name) (.slice ax mx.labels.length cx) (.slice kx mx.kids.length nx))
                replace HVy := hideK (HVy.out.st (b := ox) (by simp) (.int .i64 mx.kind) (.int .i64 mx.so) (.string mx.name) (.slice ax mx.labels.length cx) (.slice kx mx.kids.length nx))
                clear HVx HZx
                go_simp
                refine hK.out _ _ hSn ?_
                clear hS hK K hSn z0 z1 z2 z3 z4 f0 f1 f2 f3 f4
                intro hS
                change wpAnyH _ _ _ _ _ _ _ _ (st5 V4 ox 0 (.int .i64 mx.kind) (.int .i64 mx.so) (.string mx.name) (.slice ax mx.labels.length cx) (.slice kx mx.kids.length nx))
                change CGW _ _ _ _ _ _ _ _ _ _ _ _ (st5 V4 ox 0 (.int .i64 mx.kind) (.int .i64 mx.so) (.string mx.name) (.slice ax mx.labels.length cx) (.slice kx mx.kids.length nx)) at hS
                generalize st5 V4 ox 0 (.int .i64 mx.kind) (.int .i64 mx.so) (.string mx.name) (.slice ax mx.labels.length cx) (.slice kx mx.kids.length nx) = V5 at *
                refine take_oneHL 9 (AllReadyH.cons rfl (fun K hK => ?_) AllReadyH.nil) (by kernel_rfl)
                obtain ⟨_, _, z0, z1, z2, z3, z4, zf⟩ := HZy.out
                have f0 := zf 0
                have f1 := zf 1
                have f2 := zf 2
                have f3 := zf 3
                have f4 := zf 4
                clear zf
                have hSn := hS.st (b := oy) HZy.out.lo (.int .i64 my.kind) (.int .i64 my.so) (.string my.name) (.slice ay my.labels.length cy) (.slice ky my.kids.length ny)
                have HTY := hideK ((HVy.out.st (b := oy) (by simp) (.int .i64 my.kind) (.int .i64 my.so) (.string my.name) (.slice ay my.labels.length cy) (.slice ky my.kids.length ny)).tyb (show TyAt (st5 V5 oy 0 (.int .i64 my.kind) (.int .i64 my.so) (.string my.name) (.slice ay my.labels.length cy) (.slice ky my.kids.length ny)) oy 0 my ay cy ky ny from HZy.out.ty my ay cy ky ny) (by rw [st5_size]; exact HZy.out.lt))
                have HTX2 := hideK ((HTX.out.st (b := oy) (by simp) (.int .i64 my.kind) (.int .i64 my.so) (.string my.name) (.slice ay my.labels.length cy) (.slice ky my.kids.length ny)).tyb (tyAt_st (b := oy) HNE.out (.int .i64 my.kind) (.int .i64 my.so) (.string my.name) (.slice ay my.labels.length cy) (.slice ky my.kids.length ny) HTA.out) (by rw [st5_size]; exact HLX.out))
                clear HVy HZy HTX HTA HLX HOX
                go_simp
                refine hK.out _ _ hSn ?_
                clear hS hK K hSn z0 z1 z2 z3 z4 f0 f1 f2 f3 f4
                intro hS
                change wpAnyH _ _ _ _ _ _ _ _ (st5 V5 oy 0 (.int .i64 my.kind) (.int .i64 my.so) (.string my.name) (.slice ay my.labels.length cy) (.slice ky my.kids.length ny))
                change CGW _ _ _ _ _ _ _ _ _ _ _ _ (st5 V5 oy 0 (.int .i64 my.kind) (.int .i64 my.so) (.string my.name) (.slice ay my.labels.length cy) (.slice ky my.kids.length ny)) at hS
                generalize st5 V5 oy 0 (.int .i64 my.kind) (.int .i64 my.so) (.string my.name) (.slice ay my.labels.length cy) (.slice ky my.kids.length ny) = V6 at *
                refine wpAnyH_done (by kernel_rfl) ?_ _
                go_wp2_with fail
                go_meet
                exact ⟨_, _, _, _, _, _, _, _, _, _, _, _, rfl, rfl, hS, HTX2.out, HTY.out⟩
            · go_simp
              have hSn := hS.al (.cells #[.int .i64 0, .int .i64 0, .string ⟨#[]⟩, .slice none 0 0, .slice none 0 0] 25)
              have HZy := hideK (BXZ.new (be := be) hS.lt)
              have HNE := hideK (show ox ≠ V1.heap.size from by have := HZx.out.lt; omega)
              replace HZx := hideK (HZx.out.al (.cells #[.int .i64 0, .int .i64 0, .string ⟨#[]⟩, .slice none 0 0, .slice none 0 0] 25))
              refine hK.out _ _ hSn ?_
              clear hS hK K hSn
              intro hS
              generalize V1.heap.size = oy at *
              generalize World.alloc V1 (.cells #[.int .i64 0, .int .i64 0, .string ⟨#[]⟩, .slice none 0 0, .slice none 0 0] 25) = V2 at *
              refine take_oneHL 2 (AllReadyH.cons rfl (fun K hK => ?_) AllReadyH.nil) (by kernel_rfl)
              go_simp
              rw [HCF.out]
              simp only [Oper.upon]
              refine (Cx.out _ hS).mono ?_
              rintro e V3 ⟨⟨ax, cx, kx, nx, dx, rfl, h1, h2, h3⟩, hb⟩
              have hSn := hS.keep hb
              have HVx := hideK (tv_new (B := w.heap.size) [oy, ox] (bs2 hS HZy.out HZx.out) hS.bl.size hb.size h1 h2 h3)
              replace HZx := hideK (HZx.out.keep hb)
              replace HZy := hideK (HZy.out.keep hb)
              refine hK.out _ _ hSn ?_
              clear hS hK K hSn hb h1 h2 h3
              intro hS
              refine take_oneHL 5 (AllReadyH.cons rfl (fun K hK => ?_) AllReadyH.nil) (by kernel_rfl)
              go_simp
              rw [HCF.out]
              simp only [Oper.upon]
              refine (Cy.out _ hS).mono ?_
              rintro e V4 ⟨⟨ay, cy, ky, ny, dy, rfl, h1, h2, h3⟩, hb⟩
              have hSn := hS.keep hb
              have HVy := hideK (tv_new (B := w.heap.size) [oy, ox] (bs2 hS HZy.out HZx.out) hS.bl.size hb.size h1 h2 h3)
              replace HZx := hideK (HZx.out.keep hb)
              replace HZy := hideK (HZy.out.keep hb)
              replace HVx := hideK (HVx.out.keep hb)
              refine hK.out _ _ hSn ?_
              clear hS hK K hSn hb h1 h2 h3
              intro hS
              refine take_oneHL 8 (AllReadyH.cons rfl (fun K hK => ?_) AllReadyH.nil) (by kernel_rfl)
              obtain ⟨_, _, z0, z1, z2, z3, z4, zf⟩ := HZx.out
              have f0 := zf 0
              have f1 := zf 1
              have f2 := zf 2
              have f3 := zf 3
              have f4 := zf 4
              clear zf
              have hSn := hS.st (b := ox) HZx.out.lo (.int .i64 mx.kind) (.int .i64 mx.so) (.string mx.name) (.slice ax mx.labels.length cx) (.slice kx mx.kids.length nx)
              have HOX := hideK HZx.out.lo
              have HTX := hideK (HVx.out.st (b := ox) (by simp) (.int .i64 mx.kind) (.int .i64 mx.so) (.string mx.name) (.slice ax mx.labels.length cx) (.slice kx mx.kids.length nx))
              have HTA := hideK (show TyAt (st5 V4 ox 0 (.int .i64 mx.kind) (.int .i64 mx.so) (.string mx.name) (.slice ax mx.labels.length cx) (.slice kx mx.kids.length nx)) ox 0 mx ax cx kx nx from HZx.out.ty mx ax cx kx nx)
              have HLX := hideK (show ox < (st5 V4 ox 0 (.int .i64 mx.kind) (.int .i64 mx.so) (.string mx.name) (.slice ax mx.labels.length cx) (.slice kx mx.kids.length nx)).heap.size from by rw [st5_size]; exact HZx.out.lt)
              replace HZy := hideK (HZy.out.st (b' := ox) HNE.out.symm (.int .i64 mx.kind) (.int .i64 mx.so) (.string mx.name) (.slice ax mx.labels.length cx) (.slice kx mx.kids.length nx))
              replace HVy := hideK (HVy.out.st (b := ox) (by simp) (.int .i64 mx.kind) (.int .i64 mx.so) (.string mx.name) (.slice ax mx.labels.length cx) (.slice kx mx.kids.length nx))
              clear HVx HZx
              go_simp
              refine hK.out _ _ hSn ?_
              clear hS hK K hSn z0 z1 z2 z3 z4 f0 f1 f2 f3 f4
              intro hS
              change wpAnyH _ _ _ _ _ _ _ _ (st5 V4 ox 0 (.int .i64 mx.kind) (.int .i64 mx.so) (.string mx.name) (.slice ax mx.labels.length cx) (.slice kx mx.kids.length nx))
              change CGW _ _ _ _ _ _ _ _ _ _ _ _ (st5 V4 ox 0 (.int .i64 mx.kind) (.int .i64 mx.so) (.string mx.name) (.slice ax mx.labels.length cx) (.slice kx mx.kids.length nx)) at hS
              generalize st5 V4 ox 0 (.int .i64 mx.kind) (.int .i64 mx.so) (.string mx.name) (.slice ax mx.labels.length cx) (.slice kx mx.kids.length nx) = V5 at *
              refine take_oneHL 9 (AllReadyH.cons rfl (fun K hK => ?_) AllReadyH.nil) (by kernel_rfl)
              obtain ⟨_, _, z0, z1, z2, z3, z4, zf⟩ := HZy.out
              have f0 := zf 0
              have f1 := zf 1
              have f2 := zf 2
              have f3 := zf 3
              have f4 := zf 4
              clear zf
              have hSn := hS.st (b := oy) HZy.out.lo (.int .i64 my.kind) (.int .i64 my.so) (.string my.name) (.slice ay my.labels.length cy) (.slice ky my.kids.length ny)
              have HTY := hideK ((HVy.out.st (b := oy) (by simp) (.int .i64 my.kind) (.int .i64 my.so) (.string my.name) (.slice ay my.labels.length cy) (.slice ky my.kids.length ny)).tyb (show TyAt (st5 V5 oy 0 (.int .i64 my.kind) (.int .i64 my.so) (.string my.name) (.slice ay my.labels.length cy) (.slice ky my.kids.length ny)) oy 0 my ay cy ky ny from HZy.out.ty my ay cy ky ny) (by rw [st5_size]; exact HZy.out.lt))
              have HTX2 := hideK ((HTX.out.st (b := oy) (by simp) (.int .i64 my.kind) (.int .i64 my.so) (.string my.name) (.slice ay my.labels.length cy) (.slice ky my.kids.length ny)).tyb (tyAt_st (b := oy) HNE.out (.int .i64 my.kind) (.int .i64 my.so) (.string my.name) (.slice ay my.labels.length cy) (.slice ky my.kids.length ny) HTA.out) (by rw [st5_size]; exact HLX.out))
              clear HVy HZy HTX HTA HLX HOX
              go_simp
              refine hK.out _ _ hSn ?_
              clear hS hK K hSn z0 z1 z2 z3 z4 f0 f1 f2 f3 f4
              intro hS
              change wpAnyH _ _ _ _ _ _ _ _ (st5 V5 oy 0 (.int .i64 my.kind) (.int .i64 my.so) (.string my.name) (.slice ay my.labels.length cy) (.slice ky my.kids.length ny))
              change CGW _ _ _ _ _ _ _ _ _ _ _ _ (st5 V5 oy 0 (.int .i64 my.kind) (.int .i64 my.so) (.string my.name) (.slice ay my.labels.length cy) (.slice ky my.kids.length ny)) at hS
              generalize st5 V5 oy 0 (.int .i64 my.kind) (.int .i64 my.so) (.string my.name) (.slice ay my.labels.length cy) (.slice ky my.kids.length ny) = V6 at *
              refine wpAnyH_done (by kernel_rfl) ?_ _
              go_wp2_with fail
              go_meet
              exact ⟨_, _, _, _, _, _, _, _, _, _, _, _, rfl, rfl, hS, HTX2.out, HTY.out⟩
          · go_simp
            have hSn := hS.al (.cells #[.int .i64 0, .int .i64 0, .string ⟨#[]⟩, .slice none 0 0, .slice none 0 0] 25)
            have HZy := hideK (BXZ.new (be := be) hS.lt)
            refine hK.out _ _ hSn ?_
            clear hS hK K hSn
            intro hS
            generalize V0.heap.size = oy at *
            generalize World.alloc V0 (.cells #[.int .i64 0, .int .i64 0, .string ⟨#[]⟩, .slice none 0 0, .slice none 0 0] 25) = V1 at *
            refine wpAnyH_ready (rs := [2, 6]) (by kernel_rfl) (by simp) (AllReadyH.cons rfl (fun K hK => ?_) (AllReadyH.cons rfl (fun K hK => ?_) AllReadyH.nil))
            · go_simp
              rw [HCF.out]
              simp only [Oper.upon]
              refine (Cx.out _ hS).mono ?_
              rintro e V2 ⟨⟨ax, cx, kx, nx, dx, rfl, h1, h2, h3⟩, hb⟩
              have hSn := hS.keep hb
              have HVx := hideK (tv_new (B := w.heap.size) [oy] (bs1 hS HZy.out) hS.bl.size hb.size h1 h2 h3)
              replace HZy := hideK (HZy.out.keep hb)
              refine hK.out _ _ hSn ?_
              clear hS hK K hSn hb h1 h2 h3
              intro hS
              refine wpAnyH_ready (rs := [5, 6]) (by kernel_rfl) (by simp) (AllReadyH.cons rfl (fun K hK => ?_) (AllReadyH.cons rfl (fun K hK => ?_) AllReadyH.nil))
              · go_simp
                rw [HCF.out]
                simp only [Oper.upon]
                refine (Cy.out _ hS).mono ?_
                rintro e V3 ⟨⟨ay, cy, ky, ny, dy, rfl, h1, h2, h3⟩, hb⟩
                have hSn := hS.keep hb
                have HVy := hideK (tv_new (B := w.heap.size) [oy] (bs1 hS HZy.out) hS.bl.size hb.size h1 h2 h3)
                replace HZy := hideK (HZy.out.keep hb)
                replace HVx := hideK (HVx.out.keep hb)
                refine hK.out _ _ hSn ?_
                clear hS hK K hSn hb h1 h2 h3
                intro hS
                refine take_oneHL 6 (AllReadyH.cons rfl (fun K hK => ?_) AllReadyH.nil) (by kernel_rfl)
                go_simp
                have hSn := hS.al (.cells #[.int .i64 0, .int .i64 0, .string ⟨#[]⟩, .slice none 0 0, .slice none 0 0] 25)
                have HZx := hideK (BXZ.new (be := be) hS.lt)
                have HNE := hideK (show oy ≠ V3.heap.size from by have := HZy.out.lt; omega)
                replace HZy := hideK (HZy.out.al (.cells #[.int .i64 0, .int .i64 0, .string ⟨#[]⟩, .slice none 0 0, .slice none 0 0] 25))
                replace HVx := hideK (HVx.out.box (.cells #[.int .i64 0, .int .i64 0, .string ⟨#[]⟩, .slice none 0 0, .slice none 0 0] 25))
                replace HVy := hideK (HVy.out.box (.cells #[.int .i64 0, .int .i64 0, .string ⟨#[]⟩, .slice none 0 0, .slice none 0 0] 25))
                refine hK.out _ _ hSn ?_
                clear hS hK K hSn
                intro hS
                generalize V3.heap.size = ox at *
                generalize World.alloc V3 (.cells #[.int .i64 0, .int .i64 0, .string ⟨#[]⟩, .slice none 0 0, .slice none 0 0] 25) = V4 at *
                refine take_oneHL 8 (AllReadyH.cons rfl (fun K hK => ?_) AllReadyH.nil) (by kernel_rfl)
                obtain ⟨_, _, z0, z1, z2, z3, z4, zf⟩ := HZx.out
                have f0 := zf 0
                have f1 := zf 1
                have f2 := zf 2
                have f3 := zf 3
                have f4 := zf 4
                clear zf
                have hSn := hS.st (b := ox) HZx.out.lo (.int .i64 mx.kind) (.int .i64 mx.so) (.string mx.name) (.slice ax mx.labels.length cx) (.slice kx mx.kids.length nx)
                have HOX := hideK HZx.out.lo
                have HTX := hideK (HVx.out.st (b := ox) (by simp) (.int .i64 mx.kind) (.int .i64 mx.so) (.string mx.name) (.slice ax mx.labels.length cx) (.slice kx mx.kids.length nx))
                have HTA := hideK (show TyAt (st5 V4 ox 0 (.int .i64 mx.kind) (.int .i64 mx.so) (.string mx.name) (.slice ax mx.labels.length cx) (.slice kx mx.kids.length nx)) ox 0 mx ax cx kx nx from HZx.out.ty mx ax cx kx nx)
                have HLX := hideK (show ox < (st5 V4 ox 0 (.int .i64 mx.kind) (.int .i64 mx.so) (.string mx.name) (.slice ax mx.labels.length cx) (.slice kx mx.kids.length nx)).heap.size from by rw [st5_size]; exact HZx.out.lt)
                replace HZy := hideK (HZy.out.st (b' := ox) HNE.out (.int .i64 mx.kind) (.int .i64 mx.so) (.string mx.name) (.slice ax mx.labels.length cx) (.slice kx mx.kids.length nx))
                replace HVy := hideK (HVy.out.st (b := ox) (by simp) (.int .i64 mx.kind) (.int .i64 mx.so) (.string mx.name) (.slice ax mx.labels.length cx) (.slice kx mx.kids.length nx))
                clear HVx HZx
                go_simp
                refine hK.out _ _ hSn ?_
                clear hS hK K hSn z0 z1 z2 z3 z4 f0 f1 f2 f3 f4
                intro hS
                change wpAnyH _ _ _ _ _ _ _ _ (st5 V4 ox 0 (.int .i64 mx.kind) (.int .i64 mx.so) (.string mx.name) (.slice ax mx.labels.length cx) (.slice kx mx.kids.length nx))
                change CGW _ _ _ _ _ _ _ _ _ _ _ _ (st5 V4 ox 0 (.int .i64 mx.kind) (.int .i64 mx.so) (.string mx.name) (.slice ax mx.labels.length cx) (.slice kx mx.kids.length nx)) at hS
                generalize st5 V4 ox 0 (.int .i64 mx.kind) (.int .i64 mx.so) (.string mx.name) (.slice ax mx.labels.length cx) (.slice kx mx.kids.length nx) = V5 at *
                refine take_oneHL 9 (AllReadyH.cons rfl (fun K hK => ?_) AllReadyH.nil) (by kernel_rfl)
                obtain ⟨_, _, z0, z1, z2, z3, z4, zf⟩ := HZy.out
                have f0 := zf 0
                have f1 := zf 1
                have f2 := zf 2
                have f3 := zf 3
                have f4 := zf 4
                clear zf
                have hSn := hS.st (b := oy) HZy.out.lo (.int .i64 my.kind) (.int .i64 my.so) (.string my.name) (.slice ay my.labels.length cy) (.slice ky my.kids.length ny)
                have HTY := hideK ((HVy.out.st (b := oy) (by simp) (.int .i64 my.kind) (.int .i64 my.so) (.string my.name) (.slice ay my.labels.length cy) (.slice ky my.kids.length ny)).tyb (show TyAt (st5 V5 oy 0 (.int .i64 my.kind) (.int .i64 my.so) (.string my.name) (.slice ay my.labels.length cy) (.slice ky my.kids.length ny)) oy 0 my ay cy ky ny from HZy.out.ty my ay cy ky ny) (by rw [st5_size]; exact HZy.out.lt))
                have HTX2 := hideK ((HTX.out.st (b := oy) (by simp) (.int .i64 my.kind) (.int .i64 my.so) (.string my.name) (.slice ay my.labels.length cy) (.slice ky my.kids.length ny)).tyb (tyAt_st (b := oy) HNE.out.symm (.int .i64 my.kind) (.int .i64 my.so) (.string my.name) (.slice ay my.labels.length cy) (.slice ky my.kids.length ny) HTA.out) (by rw [st5_size]; exact HLX.out))
                clear HVy HZy HTX HTA HLX HOX
                go_simp
                refine hK.out _ _ hSn ?_
                clear hS hK K hSn z0 z1 z2 z3 z4 f0 f1 f2 f3 f4
                intro hS
                change wpAnyH _ _ _ _ _ _ _ _ (st5 V5 oy 0 (.int .i64 my.kind) (.int .i64 my.so) (.string my.name) (.slice ay my.labels.length cy) (.slice ky my.kids.length ny))
                change CGW _ _ _ _ _ _ _ _ _ _ _ _ (st5 V5 oy 0 (.int .i64 my.kind) (.int .i64 my.so) (.string my.name) (.slice ay my.labels.length cy) (.slice ky my.kids.length ny)) at hS
                generalize st5 V5 oy 0 (.int .i64 my.kind) (.int .i64 my.so) (.string my.name) (.slice ay my.labels.length cy) (.slice ky my.kids.length ny) = V6 at *
                refine wpAnyH_done (by kernel_rfl) ?_ _
                go_wp2_with fail
                go_meet
                exact ⟨_, _, _, _, _, _, _, _, _, _, _, _, rfl, rfl, hS, HTX2.out, HTY.out⟩
              · go_simp
                have hSn := hS.al (.cells #[.int .i64 0, .int .i64 0, .string ⟨#[]⟩, .slice none 0 0, .slice none 0 0] 25)
                have HZx := hideK (BXZ.new (be := be) hS.lt)
                have HNE := hideK (show oy ≠ V2.heap.size from by have := HZy.out.lt; omega)
                replace HZy := hideK (HZy.out.al (.cells #[.int .i64 0, .int .i64 0, .string ⟨#[]⟩, .slice none 0 0, .slice none 0 0] 25))
                replace HVx := hideK (HVx.out.box (.cells #[.int .i64 0, .int .i64 0, .string ⟨#[]⟩, .slice none 0 0, .slice none 0 0] 25))
                refine hK.out _ _ hSn ?_
                clear hS hK K hSn
                intro hS
                generalize V2.heap.size = ox at *
                generalize World.alloc V2 (.cells #[.int .i64 0, .int .i64 0, .string ⟨#[]⟩, .slice none 0 0, .slice none 0 0] 25) = V3 at *
                refine take_oneHL 5 (AllReadyH.cons rfl (fun K hK => ?_) AllReadyH.nil) (by kernel_rfl)
                go_simp
                rw [HCF.out]
                simp only [Oper.upon]
                refine (Cy.out _ hS).mono ?_
                rintro e V4 ⟨⟨ay, cy, ky, ny, dy, rfl, h1, h2, h3⟩, hb⟩
                have hSn := hS.keep hb
                have HVy := hideK (tv_new (B := w.heap.size) [ox, oy] (bs2 hS HZx.out HZy.out) hS.bl.size hb.size h1 h2 h3)
                replace HZy := hideK (HZy.out.keep hb)
                replace HZx := hideK (HZx.out.keep hb)
                replace HVx := hideK (HVx.out.keep hb)
                refine hK.out _ _ hSn ?_
                clear hS hK K hSn hb h1 h2 h3
                intro hS
                refine take_oneHL 8 (AllReadyH.cons rfl (fun K hK => ?_) AllReadyH.nil) (by kernel_rfl)
                obtain ⟨_, _, z0, z1, z2, z3, z4, zf⟩ := HZx.out
                have f0 := zf 0
                have f1 := zf 1
                have f2 := zf 2
                have f3 := zf 3
                have f4 := zf 4
                clear zf
                have hSn := hS.st (b := ox) HZx.out.lo (.int .i64 mx.kind) (.int .i64 mx.so) (.string mx.name) (.slice ax mx.labels.length cx) (.slice kx mx.kids.length nx)
                have HOX := hideK HZx.out.lo
                have HTX := hideK (HVx.out.st (b := ox) (by simp) (.int .i64 mx.kind) (.int .i64 mx.so) (.string mx.name) (.slice ax mx.labels.length cx) (.slice kx mx.kids.length nx))
                have HTA := hideK (show TyAt (st5 V4 ox 0 (.int .i64 mx.kind) (.int .i64 mx.so) (.string mx.name) (.slice ax mx.labels.length cx) (.slice kx mx.kids.length nx)) ox 0 mx ax cx kx nx from HZx.out.ty mx ax cx kx nx)
                have HLX := hideK (show ox < (st5 V4 ox 0 (.int .i64 mx.kind) (.int .i64 mx.so) (.string mx.name) (.slice ax mx.labels.length cx) (.slice kx mx.kids.length nx)).heap.size from by rw [st5_size]; exact HZx.out.lt)
                replace HZy := hideK (HZy.out.st (b' := ox) HNE.out (.int .i64 mx.kind) (.int .i64 mx.so) (.string mx.name) (.slice ax mx.labels.length cx) (.slice kx mx.kids.length nx))
                replace HVy := hideK (HVy.out.st (b := ox) (by simp) (.int .i64 mx.kind) (.int .i64 mx.so) (.string mx.name) (.slice ax mx.labels.length cx) (.slice kx mx.kids.length nx))
                clear HVx HZx
                go_simp
                refine hK.out _ _ hSn ?_
                clear hS hK K hSn z0 z1 z2 z3 z4 f0 f1 f2 f3 f4
                intro hS
                change wpAnyH _ _ _ _ _ _ _ _ (st5 V4 ox 0 (.int .i64 mx.kind) (.int .i64 mx.so) (.string mx.name) (.slice ax mx.labels.length cx) (.slice kx mx.kids.length nx))
                change CGW _ _ _ _ _ _ _ _ _ _ _ _ (st5 V4 ox 0 (.int .i64 mx.kind) (.int .i64 mx.so) (.string mx.name) (.slice ax mx.labels.length cx) (.slice kx mx.kids.length nx)) at hS
                generalize st5 V4 ox 0 (.int .i64 mx.kind) (.int .i64 mx.so) (.string mx.name) (.slice ax mx.labels.length cx) (.slice kx mx.kids.length nx) = V5 at *
                refine take_oneHL 9 (AllReadyH.cons rfl (fun K hK => ?_) AllReadyH.nil) (by kernel_rfl)
                obtain ⟨_, _, z0, z1, z2, z3, z4, zf⟩ := HZy.out
                have f0 := zf 0
                have f1 := zf 1
                have f2 := zf 2
                have f3 := zf 3
                have f4 := zf 4
                clear zf
                have hSn := hS.st (b := oy) HZy.out.lo (.int .i64 my.kind) (.int .i64 my.so) (.string my.name) (.slice ay my.labels.length cy) (.slice ky my.kids.length ny)
                have HTY := hideK ((HVy.out.st (b := oy) (by simp) (.int .i64 my.kind) (.int .i64 my.so) (.string my.name) (.slice ay my.labels.length cy) (.slice ky my.kids.length ny)).tyb (show TyAt (st5 V5 oy 0 (.int .i64 my.kind) (.int .i64 my.so) (.string my.name) (.slice ay my.labels.length cy) (.slice ky my.kids.length ny)) oy 0 my ay cy ky ny from HZy.out.ty my ay cy ky ny) (by rw [st5_size]; exact HZy.out.lt))
                have HTX2 := hideK ((HTX.out.st (b := oy) (by simp) (.int .i64 my.kind) (.int .i64 my.so) (.string my.name) (.slice ay my.labels.length cy) (.slice ky my.kids.length ny)).tyb (tyAt_st (b := oy) HNE.out.symm (.int .i64 my.kind) (.int .i64 my.so) (.string my.name) (.slice ay my.labels.length cy) (.slice ky my.kids.length ny) HTA.out) (by rw [st5_size]; exact HLX.out))
                clear HVy HZy HTX HTA HLX HOX
                go_simp
                refine hK.out _ _ hSn ?_
                clear hS hK K hSn z0 z1 z2 z3 z4 f0 f1 f2 f3 f4
                intro hS
                change wpAnyH _ _ _ _ _ _ _ _ (st5 V5 oy 0 (.int .i64 my.kind) (.int .i64 my.so) (.string my.name) (.slice ay my.labels.length cy) (.slice ky my.kids.length ny))
                change CGW _ _ _ _ _ _ _ _ _ _ _ _ (st5 V5 oy 0 (.int .i64 my.kind) (.int .i64 my.so) (.string my.name) (.slice ay my.labels.length cy) (.slice ky my.kids.length ny)) at hS
                generalize st5 V5 oy 0 (.int .i64 my.kind) (.int .i64 my.so) (.string my.name) (.slice ay my.labels.length cy) (.slice ky my.kids.length ny) = V6 at *
                refine wpAnyH_done (by kernel_rfl) ?_ _
                go_wp2_with fail
                go_meet
                exact ⟨_, _, _, _, _, _, _, _, _, _, _, _, rfl, rfl, hS, HTX2.out, HTY.out⟩
            · go_simp
              have hSn := hS.al (.cells #[.int .i64 0, .int .i64 0, .string ⟨#[]⟩, .slice none 0 0, .slice none 0 0] 25)
              have HZx := hideK (BXZ.new (be := be) hS.lt)
              have HNE := hideK (show oy ≠ V1.heap.size from by have := HZy.out.lt; omega)
              replace HZy := hideK (HZy.out.al (.cells #[.int .i64 0, .int .i64 0, .string ⟨#[]⟩, .slice none 0 0, .slice none 0 0] 25))
              refine hK.out _ _ hSn ?_
              clear hS hK K hSn
              intro hS
              generalize V1.heap.size = ox at *
              generalize World.alloc V1 (.cells #[.int .i64 0, .int .i64 0, .string ⟨#[]⟩, .slice none 0 0, .slice none 0 0] 25) = V2 at *
              refine take_oneHL 2 (AllReadyH.cons rfl (fun K hK => ?_) AllReadyH.nil) (by kernel_rfl)
              go_simp
              rw [HCF.out]
              simp only [Oper.upon]
              refine (Cx.out _ hS).mono ?_
              rintro e V3 ⟨⟨ax, cx, kx, nx, dx, rfl, h1, h2, h3⟩, hb⟩
              have hSn := hS.keep hb
              have HVx := hideK (tv_new (B := w.heap.size) [ox, oy] (bs2 hS HZx.out HZy.out) hS.bl.size hb.size h1 h2 h3)
              replace HZy := hideK (HZy.out.keep hb)
              replace HZx := hideK (HZx.out.keep hb)
              refine hK.out _ _ hSn ?_
              clear hS hK K hSn hb h1 h2 h3
              intro hS
              refine take_oneHL 5 (AllReadyH.cons rfl (fun K hK => ?_) AllReadyH.nil) (by kernel_rfl)
              go_simp
              rw [HCF.out]
              simp only [Oper.upon]
              refine (Cy.out _ hS).mono ?_
              rintro e V4 ⟨⟨ay, cy, ky, ny, dy, rfl, h1, h2, h3⟩, hb⟩
              have hSn := hS.keep hb
              have HVy := hideK (tv_new (B := w.heap.size) [ox, oy] (bs2 hS HZx.out HZy.out) hS.bl.size hb.size h1 h2 h3)
              replace HZy := hideK (HZy.out.keep hb)
              replace HZx := hideK (HZx.out.keep hb)
              replace HVx := hideK (HVx.out.keep hb)
              refine hK.out _ _ hSn ?_
              clear hS hK K hSn hb h1 h2 h3
              intro hS
              refine take_oneHL 8 (AllReadyH.cons rfl (fun K hK => ?_) AllReadyH.nil) (by kernel_rfl)
              obtain ⟨_, _, z0, z1, z2, z3, z4, zf⟩ := HZx.out
              have f0 := zf 0
              have f1 := zf 1
              have f2 := zf 2
              have f3 := zf 3
              have f4 := zf 4
              clear zf
              have hSn := hS.st (b := ox) HZx.out.lo (.int .i64 mx.kind) (.int .i64 mx.so) (.string mx.name) (.slice ax mx.labels.length cx) (.slice kx mx.kids.length nx)
              have HOX := hideK HZx.out.lo
              have HTX := hideK (HVx.out.st (b := ox) (by simp) (.int .i64 mx.kind) (.int .i64 mx.so) (.string mx.name) (.slice ax mx.labels.length cx) (.slice kx mx.kids.length nx))
              have HTA := hideK (show TyAt (st5 V4 ox 0 (.int .i64 mx.kind) (.int .i64 mx.so) (.string mx.name) (.slice ax mx.labels.length cx) (.slice kx mx.kids.length nx)) ox 0 mx ax cx kx nx from HZx.out.ty mx ax cx kx nx)
              have HLX := hideK (show ox < (st5 V4 ox 0 (.int .i64 mx.kind) (.int .i64 mx.so) (.string mx.name) (.slice ax mx.labels.length cx) (.slice kx mx.kids.length nx)).heap.size from by rw [st5_size]; exact HZx.out.lt)
              replace HZy := hideK (HZy.out.st (b' := ox) HNE.out (.int .i64 mx.kind) (.int .i64 mx.so) (.string mx.name) (.slice ax mx.labels.length cx) (.slice kx mx.kids.length nx))
              replace HVy := hideK (HVy.out.st (b := ox) (by simp) (.int .i64 mx.kind) (.int .i64 mx.so) (.string mx.name) (.slice ax mx.labels.length cx) (.slice kx mx.kids.length nx))
              clear HVx HZx
              go_simp
              refine hK.out _ _ hSn ?_
              clear hS hK K hSn z0 z1 z2 z3 z4 f0 f1 f2 f3 f4
              intro hS
              change wpAnyH _ _ _ _ _ _ _ _ (st5 V4 ox 0 (.int .i64 mx.kind) (.int .i64 mx.so) (.string mx.name) (.slice ax mx.labels.length cx) (.slice kx mx.kids.length nx))
              change CGW _ _ _ _ _ _ _ _ _ _ _ _ (st5 V4 ox 0 (.int .i64 mx.kind) (.int .i64 mx.so) (.string mx.name) (.slice ax mx.labels.length cx) (.slice kx mx.kids.length nx)) at hS
              generalize st5 V4 ox 0 (.int .i64 mx.kind) (.int .i64 mx.so) (.string mx.name) (.slice ax mx.labels.length cx) (.slice kx mx.kids.length nx) = V5 at *
              refine take_oneHL 9 (AllReadyH.cons rfl (fun K hK => ?_) AllReadyH.nil) (by kernel_rfl)
              obtain ⟨_, _, z0, z1, z2, z3, z4, zf⟩ := HZy.out
              have f0 := zf 0
              have f1 := zf 1
              have f2 := zf 2
              have f3 := zf 3
              have f4 := zf 4
              clear zf
              have hSn := hS.st (b := oy) HZy.out.lo (.int .i64 my.kind) (.int .i64 my.so) (.string my.name) (.slice ay my.labels.length cy) (.slice ky my.kids.length ny)
              have HTY := hideK ((HVy.out.st (b := oy) (by simp) (.int .i64 my.kind) (.int .i64 my.so) (.string my.name) (.slice ay my.labels.length cy) (.slice ky my.kids.length ny)).tyb (show TyAt (st5 V5 oy 0 (.int .i64 my.kind) (.int .i64 my.so) (.string my.name) (.slice ay my.labels.length cy) (.slice ky my.kids.length ny)) oy 0 my ay cy ky ny from HZy.out.ty my ay cy ky ny) (by rw [st5_size]; exact HZy.out.lt))
              have HTX2 := hideK ((HTX.out.st (b := oy) (by simp) (.int .i64 my.kind) (.int .i64 my.so) (.string my.name) (.slice ay my.labels.length cy) (.slice ky my.kids.length ny)).tyb (tyAt_st (b := oy) HNE.out.symm (.int .i64 my.kind) (.int .i64 my.so) (.string my.name) (.slice ay my.labels.length cy) (.slice ky my.kids.length ny) HTA.out) (by rw [st5_size]; exact HLX.out))
              clear HVy HZy HTX HTA HLX HOX
              go_simp
              refine hK.out _ _ hSn ?_
              clear hS hK K hSn z0 z1 z2 z3 z4 f0 f1 f2 f3 f4
              intro hS
              change wpAnyH _ _ _ _ _ _ _ _ (st5 V5 oy 0 (.int .i64 my.kind) (.int .i64 my.so) (.string my.name) (.slice ay my.labels.length cy) (.slice ky my.kids.length ny))
              change CGW _ _ _ _ _ _ _ _ _ _ _ _ (st5 V5 oy 0 (.int .i64 my.kind) (.int .i64 my.so) (.string my.name) (.slice ay my.labels.length cy) (.slice ky my.kids.length ny)) at hS
              generalize st5 V5 oy 0 (.int .i64 my.kind) (.int .i64 my.so) (.string my.name) (.slice ay my.labels.length cy) (.slice ky my.kids.length ny) = V6 at *
              refine wpAnyH_done (by kernel_rfl) ?_ _
              go_wp2_with fail
              go_meet
              exact ⟨_, _, _, _, _, _, _, _, _, _, _, _, rfl, rfl, hS, HTX2.out, HTY.out⟩
        case rest =>
          obtain ⟨ox, oy, ax, cx, kx, nx, dx, ay, cy, ky, ny, dy, rfl, rfl, hG2, hX, hY⟩ := hcut
          have c1 := refType_any dx mx ax cx kx nx wc hX.2.2.1.w hX.2.2.2.1 hX.2.2.2.2
          unfold RTPost at c1
          simp only [tyVal] at c1
          obtain ⟨x0, x1, x2, x3, x4⟩ := hX.1
          simp only [Nat.zero_add] at x1 x2 x3 x4
          have G3 := hideK hG2
          have HX := hideK hX
          have HY := hideK hY
          clear hG2 hX hY Cx Cy HCF HG c0
          go_wp2_with fail
          refine c1.mono ?_
          rintro e w4 ⟨⟨z, rfl, hz⟩, hb4⟩
          have G4 := hideK (G3.out.keep hb4)
          have HX4 := hideK (HX.out.keep hb4)
          have HY4 := hideK (HY.out.keep hb4)
          have HZ1 := hideK hz
          clear c1 hb4 hz x0 x1 x2 x3 x4 G3 HX HY
          by_cases hz0 : z = 0
          · have HC1 := hideK (HZ1.out.1 hz0)
            subst hz0
            clear HZ1
            have c2 := refType_any dy my ay cy ky ny w4 HY4.out.2.2.1.w HY4.out.2.2.2.1 HY4.out.2.2.2.2
            unfold RTPost at c2
            simp only [tyVal] at c2
            obtain ⟨x0, x1, x2, x3, x4⟩ := HY4.out.1
            simp only [Nat.zero_add] at x1 x2 x3 x4
            go_wp2_with fail
            refine c2.mono ?_
            rintro e w5 ⟨⟨z2, rfl, hz2⟩, hb5⟩
            have G5 := hideK (G4.out.keep hb5)
            have HX5 := hideK (HX4.out.keep hb5)
            have HY5 := hideK (HY4.out.keep hb5)
            have HZ2 := hideK hz2
            clear c2 hb5 hz2 x0 x1 x2 x3 x4 G4 HX4 HY4
            by_cases hz20 : z2 = 0
            · have HC2 := hideK (HZ2.out.1 hz20)
              subst hz20
              clear HZ2
              have c3 := isGood HC1.out HC2.out (is_any dx dy mx my ax cx kx nx ay cy ky ny w5 HX5.out.2.2.1 HX5.out.2.2.2.1 HX5.out.2.2.2.2 HY5.out.2.2.1 HY5.out.2.2.2.1 HY5.out.2.2.2.2)
              simp only [tyVal] at c3
              obtain ⟨x0, x1, x2, x3, x4⟩ := HX5.out.1
              obtain ⟨y0, y1, y2, y3, y4⟩ := HY5.out.1
              simp only [Nat.zero_add] at x1 x2 x3 x4 y1 y2 y3 y4
              go_wp2_with fail
              refine c3.mono ?_
              rintro e w6 ⟨⟨bb, rfl, hbb⟩, hb6⟩
              have G6 := hideK (G5.out.keep hb6)
              have HEQ := hideK (show bb = ok from by
                obtain ⟨g, hg⟩ := OFG_ex HZ.out.1
                obtain ⟨h, hh⟩ := OFG_ex HZ.out.2
                obtain ⟨g', hg'⟩ := OFG_ex HC1.out
                obtain ⟨h', hh'⟩ := OFG_ex HC2.out
                have h1 : bb = true ↔ ok = true := hbb.trans ((HBA.out g h g' h' hg hh hg' hh').trans HOK.out.symm)
                cases bb <;> cases ok <;> simp at h1 ⊢)
              clear c3 hb6 hbb x0 x1 x2 x3 x4 y0 y1 y2 y3 y4 G5 HX5 HY5
              have he := HEQ.out
              subst he
              clear HEQ HOK HBA HC1 HC2
              cases bb
              all_goals
                go_wp2_with fail
                go_roundw
                case rel => exact ⟨k + 1, by omega, by go_num, G6.out⟩
                case measure => simp [intOf]; omega
            · have hz2b : (z2 != 0) = true := by simp [hz20]
              clear HZ2
              go_wp2_with fail
              go_roundw
              case rel => exact ⟨k + 1, by omega, by go_num, G5.out⟩
              case measure => simp [intOf]; omega
          · have hz1b : (z != 0) = true := by simp [hz0]
            clear HZ1
            go_wp2_with fail
            go_roundw
            case rel => exact ⟨k + 1, by omega, by go_num, G4.out⟩
            case measure => simp [intOf]; omega
      · have hkz : ¬ (k : Int) < 7 := by omega
        have HBG := hideK (fun (g h g' h' : List Nd) (hg : OFG s g) (hh : OFG t h) (hp : OFG (gvT t) g') (hq : OFG (gvT s) h') => bt_gv hg hh hp hq)
        go_upto_region 18 with fail
        go_cut [17, 18] (fun s1 s2 wc => ∃ ox oy ax cx kx nx dx ay cy ky ny dy, s1 = .pointer (some ⟨ox, 0, none⟩) ∧ s2 = .pointer (some ⟨oy, 0, none⟩) ∧ CGW w s sal scl sak sck t al cl ak ck be wc ∧ TYB wc ox (gvT t) ax cx kx nx dx ∧ TYB wc oy (gvT s) ay cy ky ny dy)
        case first =>
          have hS0 : CGW w s sal scl sak sck t al cl ak ck be wr.drew := HG.out.keep ((Below.refl _ _).drew)
          refine wp_region_held_drew (S := CGW w s sal scl sak sck t al cl ak ck be) (by kernel_rfl) hS0 (fun hS => ?_)
          clear hS0 HG
          generalize World.drew wr = V0 at *
          refine wpAnyH_take (i := 0) (v := (.agg #[.int .i64 t.kind, .int .i64 t.so, .string t.name, .slice al t.labels.length cl, .slice ak t.kids.length ck])) rfl (by kernel_rfl) (by kernel_rfl) (by kernel_rfl) (fun _ _ _ h => h) (Or.inl ⟨by rfl, fun W hW => by obtain ⟨q0, q1, q2, q3, q4⟩ := hW.y; simp only [Nat.zero_add] at q0 q1 q2 q3 q4; go_simp⟩) hS ?_
          refine wpAnyH_take (i := 1) (v := (.agg #[.int .i64 1, .int .i64 0, .string ⟨#[]⟩, .slice none 0 0, .slice none 0 0])) rfl (by kernel_rfl) (by kernel_rfl) (by kernel_rfl) (fun _ _ _ h => h) (Or.inl ⟨by rfl, fun W hW => by obtain ⟨q0, q1, q2, q3, q4⟩ := hW.e; simp only [Nat.zero_add, endT, List.length_nil] at q0 q1 q2 q3 q4; go_simp⟩) hS ?_
          refine wpAnyH_take (i := 4) (v := (.agg #[.int .i64 s.kind, .int .i64 s.so, .string s.name, .slice sal s.labels.length scl, .slice sak s.kids.length sck])) rfl (by kernel_rfl) (by kernel_rfl) (by kernel_rfl) (fun _ _ _ h => h) (Or.inl ⟨by rfl, fun W hW => by obtain ⟨q0, q1, q2, q3, q4⟩ := hW.x; simp only [Nat.zero_add] at q0 q1 q2 q3 q4; go_simp⟩) hS ?_
          refine wpAnyH_take (i := 5) (v := (.agg #[.int .i64 1, .int .i64 0, .string ⟨#[]⟩, .slice none 0 0, .slice none 0 0])) rfl (by kernel_rfl) (by kernel_rfl) (by kernel_rfl) (fun _ _ _ h => h) (Or.inl ⟨by rfl, fun W hW => by obtain ⟨q0, q1, q2, q3, q4⟩ := hW.e; simp only [Nat.zero_add, endT, List.length_nil] at q0 q1 q2 q3 q4; go_simp⟩) hS ?_
          refine wpAnyH_ready (rs := [2, 6, 8, 9]) (by kernel_rfl) (by simp) (AllReadyH.cons rfl (fun K hK => ?_) (AllReadyH.cons rfl (fun K hK => ?_) (AllReadyH.cons rfl (fun K hK => ?_) (AllReadyH.cons rfl (fun K hK => ?_) AllReadyH.nil))))
          · go_simp
            have hSn := hS.al (.cells #[.int .i64 t.kind, .int .i64 t.so, .string t.name, .slice al t.labels.length cl, .slice ak t.kids.length ck, .int .i64 1, .int .i64 0, .string ⟨#[]⟩, .slice none 0 0, .slice none 0 0] 25)
            have HVx := hideK (tv_row hS.bl HT.out [] bs0)
            refine hK.out _ _ hSn ?_
            clear hS hK K hSn
            intro hS
            generalize V0.heap.size = rx at *
            generalize World.alloc V0 (.cells #[.int .i64 t.kind, .int .i64 t.so, .string t.name, .slice al t.labels.length cl, .slice ak t.kids.length ck, .int .i64 1, .int .i64 0, .string ⟨#[]⟩, .slice none 0 0, .slice none 0 0] 25) = V1 at *
            refine wpAnyH_take (i := 3) (v := (.agg #[.int .i64 4, .int .i64 0, .string ⟨#[]⟩, .slice none 0 0, .slice (some ⟨rx, 0, none⟩) 2 2])) rfl (by kernel_rfl) (by kernel_rfl) (by kernel_rfl) (fun _ _ _ h => h) (Or.inl ⟨by rfl, fun W hW => by go_simp⟩) hS ?_
            refine wpAnyH_ready (rs := [6, 8, 9]) (by kernel_rfl) (by simp) (AllReadyH.cons rfl (fun K hK => ?_) (AllReadyH.cons rfl (fun K hK => ?_) (AllReadyH.cons rfl (fun K hK => ?_) AllReadyH.nil)))
            · go_simp
              have hSn := hS.al (.cells #[.int .i64 s.kind, .int .i64 s.so, .string s.name, .slice sal s.labels.length scl, .slice sak s.kids.length sck, .int .i64 1, .int .i64 0, .string ⟨#[]⟩, .slice none 0 0, .slice none 0 0] 25)
              have HVy := hideK (tv_row hS.bl HS.out [] bs0)
              replace HVx := hideK (HVx.out.al (.cells #[.int .i64 s.kind, .int .i64 s.so, .string s.name, .slice sal s.labels.length scl, .slice sak s.kids.length sck, .int .i64 1, .int .i64 0, .string ⟨#[]⟩, .slice none 0 0, .slice none 0 0] 25))
              refine hK.out _ _ hSn ?_
              clear hS hK K hSn
              intro hS
              generalize V1.heap.size = ry at *
              generalize World.alloc V1 (.cells #[.int .i64 s.kind, .int .i64 s.so, .string s.name, .slice sal s.labels.length scl, .slice sak s.kids.length sck, .int .i64 1, .int .i64 0, .string ⟨#[]⟩, .slice none 0 0, .slice none 0 0] 25) = V2 at *
              refine wpAnyH_take (i := 7) (v := (.agg #[.int .i64 4, .int .i64 0, .string ⟨#[]⟩, .slice none 0 0, .slice (some ⟨ry, 0, none⟩) 2 2])) rfl (by kernel_rfl) (by kernel_rfl) (by kernel_rfl) (fun _ _ _ h => h) (Or.inl ⟨by rfl, fun W hW => by go_simp⟩) hS ?_
              refine wpAnyH_ready (rs := [8, 9]) (by kernel_rfl) (by simp) (AllReadyH.cons rfl (fun K hK => ?_) (AllReadyH.cons rfl (fun K hK => ?_) AllReadyH.nil))
              · go_simp
                have hSn := hS.al (.cells #[.int .i64 0, .int .i64 0, .string ⟨#[]⟩, .slice none 0 0, .slice none 0 0] 25)
                have HZx := hideK (BXZ.new (be := be) hS.lt)
                replace HVx := hideK (HVx.out.box (.cells #[.int .i64 0, .int .i64 0, .string ⟨#[]⟩, .slice none 0 0, .slice none 0 0] 25))
                replace HVy := hideK (HVy.out.box (.cells #[.int .i64 0, .int .i64 0, .string ⟨#[]⟩, .slice none 0 0, .slice none 0 0] 25))
                refine hK.out _ _ hSn ?_
                clear hS hK K hSn
                intro hS
                generalize V2.heap.size = ox at *
                generalize World.alloc V2 (.cells #[.int .i64 0, .int .i64 0, .string ⟨#[]⟩, .slice none 0 0, .slice none 0 0] 25) = V3 at *
                refine take_oneHL 9 (AllReadyH.cons rfl (fun K hK => ?_) AllReadyH.nil) (by kernel_rfl)
                go_simp
                have hSn := hS.al (.cells #[.int .i64 0, .int .i64 0, .string ⟨#[]⟩, .slice none 0 0, .slice none 0 0] 25)
                have HZy := hideK (BXZ.new (be := be) hS.lt)
                have HNE := hideK (show ox ≠ V3.heap.size from by have := HZx.out.lt; omega)
                replace HZx := hideK (HZx.out.al (.cells #[.int .i64 0, .int .i64 0, .string ⟨#[]⟩, .slice none 0 0, .slice none 0 0] 25))
                replace HVx := hideK (HVx.out.box (.cells #[.int .i64 0, .int .i64 0, .string ⟨#[]⟩, .slice none 0 0, .slice none 0 0] 25))
                replace HVy := hideK (HVy.out.box (.cells #[.int .i64 0, .int .i64 0, .string ⟨#[]⟩, .slice none 0 0, .slice none 0 0] 25))
                refine hK.out _ _ hSn ?_
                clear hS hK K hSn
                intro hS
                generalize V3.heap.size = oy at *
                generalize World.alloc V3 (.cells #[.int .i64 0, .int .i64 0, .string ⟨#[]⟩, .slice none 0 0, .slice none 0 0] 25) = V4 at *
                refine take_oneHL 10 (AllReadyH.cons rfl (fun K hK => ?_) AllReadyH.nil) (by kernel_rfl)
                obtain ⟨_, _, z0, z1, z2, z3, z4, zf⟩ := HZx.out
                have f0 := zf 0
                have f1 := zf 1
                have f2 := zf 2
                have f3 := zf 3
                have f4 := zf 4
                clear zf
                have hSn := hS.st (b := ox) HZx.out.lo (.int .i64 4) (.int .i64 0) (.string ⟨#[]⟩) (.slice none 0 0) (.slice (some ⟨rx, 0, none⟩) 2 2)
                have HOX := hideK HZx.out.lo
                have HTX := hideK (HVx.out.st (b := ox) (by simp) (.int .i64 4) (.int .i64 0) (.string ⟨#[]⟩) (.slice none 0 0) (.slice (some ⟨rx, 0, none⟩) 2 2))
                have HTA := hideK (show TyAt (st5 V4 ox 0 (.int .i64 4) (.int .i64 0) (.string ⟨#[]⟩) (.slice none 0 0) (.slice (some ⟨rx, 0, none⟩) 2 2)) ox 0 (gvT t) none 0 (some ⟨rx, 0, none⟩) 2 from HZx.out.ty (gvT t) none 0 (some ⟨rx, 0, none⟩) 2)
                have HLX := hideK (show ox < (st5 V4 ox 0 (.int .i64 4) (.int .i64 0) (.string ⟨#[]⟩) (.slice none 0 0) (.slice (some ⟨rx, 0, none⟩) 2 2)).heap.size from by rw [st5_size]; exact HZx.out.lt)
                replace HZy := hideK (HZy.out.st (b' := ox) HNE.out.symm (.int .i64 4) (.int .i64 0) (.string ⟨#[]⟩) (.slice none 0 0) (.slice (some ⟨rx, 0, none⟩) 2 2))
                replace HVy := hideK (HVy.out.st (b := ox) (by simp) (.int .i64 4) (.int .i64 0) (.string ⟨#[]⟩) (.slice none 0 0) (.slice (some ⟨rx, 0, none⟩) 2 2))
                clear HVx HZx
                go_simp
                refine hK.out _ _ hSn ?_
                clear hS hK K hSn z0 z1 z2 z3 z4 f0 f1 f2 f3 f4
                intro hS
                change wpAnyH _ _ _ _ _ _ _ _ (st5 V4 ox 0 (.int .i64 4) (.int .i64 0) (.string ⟨#[]⟩) (.slice none 0 0) (.slice (some ⟨rx, 0, none⟩) 2 2))
                change CGW _ _ _ _ _ _ _ _ _ _ _ _ (st5 V4 ox 0 (.int .i64 4) (.int .i64 0) (.string ⟨#[]⟩) (.slice none 0 0) (.slice (some ⟨rx, 0, none⟩) 2 2)) at hS
                generalize st5 V4 ox 0 (.int .i64 4) (.int .i64 0) (.string ⟨#[]⟩) (.slice none 0 0) (.slice (some ⟨rx, 0, none⟩) 2 2) = V5 at *
                refine take_oneHL 11 (AllReadyH.cons rfl (fun K hK => ?_) AllReadyH.nil) (by kernel_rfl)
                obtain ⟨_, _, z0, z1, z2, z3, z4, zf⟩ := HZy.out
                have f0 := zf 0
                have f1 := zf 1
                have f2 := zf 2
                have f3 := zf 3
                have f4 := zf 4
                clear zf
                have hSn := hS.st (b := oy) HZy.out.lo (.int .i64 4) (.int .i64 0) (.string ⟨#[]⟩) (.slice none 0 0) (.slice (some ⟨ry, 0, none⟩) 2 2)
                have HTY := hideK ((HVy.out.st (b := oy) (by simp) (.int .i64 4) (.int .i64 0) (.string ⟨#[]⟩) (.slice none 0 0) (.slice (some ⟨ry, 0, none⟩) 2 2)).tyb (show TyAt (st5 V5 oy 0 (.int .i64 4) (.int .i64 0) (.string ⟨#[]⟩) (.slice none 0 0) (.slice (some ⟨ry, 0, none⟩) 2 2)) oy 0 (gvT s) none 0 (some ⟨ry, 0, none⟩) 2 from HZy.out.ty (gvT s) none 0 (some ⟨ry, 0, none⟩) 2) (by rw [st5_size]; exact HZy.out.lt))
                have HTX2 := hideK ((HTX.out.st (b := oy) (by simp) (.int .i64 4) (.int .i64 0) (.string ⟨#[]⟩) (.slice none 0 0) (.slice (some ⟨ry, 0, none⟩) 2 2)).tyb (tyAt_st (b := oy) HNE.out (.int .i64 4) (.int .i64 0) (.string ⟨#[]⟩) (.slice none 0 0) (.slice (some ⟨ry, 0, none⟩) 2 2) HTA.out) (by rw [st5_size]; exact HLX.out))
                clear HVy HZy HTX HTA HLX HOX
                go_simp
                refine hK.out _ _ hSn ?_
                clear hS hK K hSn z0 z1 z2 z3 z4 f0 f1 f2 f3 f4
                intro hS
                change wpAnyH _ _ _ _ _ _ _ _ (st5 V5 oy 0 (.int .i64 4) (.int .i64 0) (.string ⟨#[]⟩) (.slice none 0 0) (.slice (some ⟨ry, 0, none⟩) 2 2))
                change CGW _ _ _ _ _ _ _ _ _ _ _ _ (st5 V5 oy 0 (.int .i64 4) (.int .i64 0) (.string ⟨#[]⟩) (.slice none 0 0) (.slice (some ⟨ry, 0, none⟩) 2 2)) at hS
                generalize st5 V5 oy 0 (.int .i64 4) (.int .i64 0) (.string ⟨#[]⟩) (.slice none 0 0) (.slice (some ⟨ry, 0, none⟩) 2 2) = V6 at *
                refine wpAnyH_done (by kernel_rfl) ?_ _
                go_wp2_with fail
                go_meet
                exact ⟨_, _, _, _, _, _, _, _, _, _, _, _, rfl, rfl, hS, HTX2.out, HTY.out⟩
              · go_simp
                have hSn := hS.al (.cells #[.int .i64 0, .int .i64 0, .string ⟨#[]⟩, .slice none 0 0, .slice none 0 0] 25)
                have HZy := hideK (BXZ.new (be := be) hS.lt)
                replace HVx := hideK (HVx.out.box (.cells #[.int .i64 0, .int .i64 0, .string ⟨#[]⟩, .slice none 0 0, .slice none 0 0] 25))
                replace HVy := hideK (HVy.out.box (.cells #[.int .i64 0, .int .i64 0, .string ⟨#[]⟩, .slice none 0 0, .slice none 0 0] 25))
                refine hK.out _ _ hSn ?_
                clear hS hK K hSn
                intro hS
                generalize V2.heap.size = oy at *
                generalize World.alloc V2 (.cells #[.int .i64 0, .int .i64 0, .string ⟨#[]⟩, .slice none 0 0, .slice none 0 0] 25) = V3 at *
                refine take_oneHL 8 (AllReadyH.cons rfl (fun K hK => ?_) AllReadyH.nil) (by kernel_rfl)
                go_simp
                have hSn := hS.al (.cells #[.int .i64 0, .int .i64 0, .string ⟨#[]⟩, .slice none 0 0, .slice none 0 0] 25)
                have HZx := hideK (BXZ.new (be := be) hS.lt)
                have HNE := hideK (show oy ≠ V3.heap.size from by have := HZy.out.lt; omega)
                replace HZy := hideK (HZy.out.al (.cells #[.int .i64 0, .int .i64 0, .string ⟨#[]⟩, .slice none 0 0, .slice none 0 0] 25))
                replace HVx := hideK (HVx.out.box (.cells #[.int .i64 0, .int .i64 0, .string ⟨#[]⟩, .slice none 0 0, .slice none 0 0] 25))
                replace HVy := hideK (HVy.out.box (.cells #[.int .i64 0, .int .i64 0, .string ⟨#[]⟩, .slice none 0 0, .slice none 0 0] 25))
                refine hK.out _ _ hSn ?_
                clear hS hK K hSn
                intro hS
                generalize V3.heap.size = ox at *
                generalize World.alloc V3 (.cells #[.int .i64 0, .int .i64 0, .string ⟨#[]⟩, .slice none 0 0, .slice none 0 0] 25) = V4 at *
                refine take_oneHL 10 (AllReadyH.cons rfl (fun K hK => ?_) AllReadyH.nil) (by kernel_rfl)
                obtain ⟨_, _, z0, z1, z2, z3, z4, zf⟩ := HZx.out
                have f0 := zf 0
                have f1 := zf 1
                have f2 := zf 2
                have f3 := zf 3
                have f4 := zf 4
                clear zf
                have hSn := hS.st (b := ox) HZx.out.lo (.int .i64 4) (.int .i64 0) (.string ⟨#[]⟩) (.slice none 0 0) (.slice (some ⟨rx, 0, none⟩) 2 2)
                have HOX := hideK HZx.out.lo
                have HTX := hideK (HVx.out.st (b := ox) (by simp) (.int .i64 4) (.int .i64 0) (.string ⟨#[]⟩) (.slice none 0 0) (.slice (some ⟨rx, 0, none⟩) 2 2))
                have HTA := hideK (show TyAt (st5 V4 ox 0 (.int .i64 4) (.int .i64 0) (.string ⟨#[]⟩) (.slice none 0 0) (.slice (some ⟨rx, 0, none⟩) 2 2)) ox 0 (gvT t) none 0 (some ⟨rx, 0, none⟩) 2 from HZx.out.ty (gvT t) none 0 (some ⟨rx, 0, none⟩) 2)
                have HLX := hideK (show ox < (st5 V4 ox 0 (.int .i64 4) (.int .i64 0) (.string ⟨#[]⟩) (.slice none 0 0) (.slice (some ⟨rx, 0, none⟩) 2 2)).heap.size from by rw [st5_size]; exact HZx.out.lt)
                replace HZy := hideK (HZy.out.st (b' := ox) HNE.out (.int .i64 4) (.int .i64 0) (.string ⟨#[]⟩) (.slice none 0 0) (.slice (some ⟨rx, 0, none⟩) 2 2))
                replace HVy := hideK (HVy.out.st (b := ox) (by simp) (.int .i64 4) (.int .i64 0) (.string ⟨#[]⟩) (.slice none 0 0) (.slice (some ⟨rx, 0, none⟩) 2 2))
                clear HVx HZx
                go_simp
                refine hK.out _ _ hSn ?_
                clear hS hK K hSn z0 z1 z2 z3 z4 f0 f1 f2 f3 f4
                intro hS
                change wpAnyH _ _ _ _ _ _ _ _ (st5 V4 ox 0 (.int .i64 4) (.int .i64 0) (.string ⟨#[]⟩) (.slice none 0 0) (.slice (some ⟨rx, 0, none⟩) 2 2))
                change CGW _ _ _ _ _ _ _ _ _ _ _ _ (st5 V4 ox 0 (.int .i64 4) (.int .i64 0) (.string ⟨#[]⟩) (.slice none 0 0) (.slice (some ⟨rx, 0, none⟩) 2 2)) at hS
                generalize st5 V4 ox 0 (.int .i64 4) (.int .i64 0) (.string ⟨#[]⟩) (.slice none 0 0) (.slice (some ⟨rx, 0, none⟩) 2 2) = V5 at *
                refine take_oneHL 11 (AllReadyH.cons rfl (fun K hK => ?_) AllReadyH.nil) (by kernel_rfl)
                obtain ⟨_, _, z0, z1, z2, z3, z4, zf⟩ := HZy.out
                have f0 := zf 0
                have f1 := zf 1
                have f2 := zf 2
                have f3 := zf 3
                have f4 := zf 4
                clear zf
                have hSn := hS.st (b := oy) HZy.out.lo (.int .i64 4) (.int .i64 0) (.string ⟨#[]⟩) (.slice none 0 0) (.slice (some ⟨ry, 0, none⟩) 2 2)
                have HTY := hideK ((HVy.out.st (b := oy) (by simp) (.int .i64 4) (.int .i64 0) (.string ⟨#[]⟩) (.slice none 0 0) (.slice (some ⟨ry, 0, none⟩) 2 2)).tyb (show TyAt (st5 V5 oy 0 (.int .i64 4) (.int .i64 0) (.string ⟨#[]⟩) (.slice none 0 0) (.slice (some ⟨ry, 0, none⟩) 2 2)) oy 0 (gvT s) none 0 (some ⟨ry, 0, none⟩) 2 from HZy.out.ty (gvT s) none 0 (some ⟨ry, 0, none⟩) 2) (by rw [st5_size]; exact HZy.out.lt))
                have HTX2 := hideK ((HTX.out.st (b := oy) (by simp) (.int .i64 4) (.int .i64 0) (.string ⟨#[]⟩) (.slice none 0 0) (.slice (some ⟨ry, 0, none⟩) 2 2)).tyb (tyAt_st (b := oy) HNE.out.symm (.int .i64 4) (.int .i64 0) (.string ⟨#[]⟩) (.slice none 0 0) (.slice (some ⟨ry, 0, none⟩) 2 2) HTA.out) (by rw [st5_size]; exact HLX.out))
                clear HVy HZy HTX HTA HLX HOX
                go_simp
                refine hK.out _ _ hSn ?_
                clear hS hK K hSn z0 z1 z2 z3 z4 f0 f1 f2 f3 f4
                intro hS
                change wpAnyH _ _ _ _ _ _ _ _ (st5 V5 oy 0 (.int .i64 4) (.int .i64 0) (.string ⟨#[]⟩) (.slice none 0 0) (.slice (some ⟨ry, 0, none⟩) 2 2))
                change CGW _ _ _ _ _ _ _ _ _ _ _ _ (st5 V5 oy 0 (.int .i64 4) (.int .i64 0) (.string ⟨#[]⟩) (.slice none 0 0) (.slice (some ⟨ry, 0, none⟩) 2 2)) at hS
                generalize st5 V5 oy 0 (.int .i64 4) (.int .i64 0) (.string ⟨#[]⟩) (.slice none 0 0) (.slice (some ⟨ry, 0, none⟩) 2 2) = V6 at *
                refine wpAnyH_done (by kernel_rfl) ?_ _
                go_wp2_with fail
                go_meet
                exact ⟨_, _, _, _, _, _, _, _, _, _, _, _, rfl, rfl, hS, HTX2.out, HTY.out⟩
            · go_simp
              have hSn := hS.al (.cells #[.int .i64 0, .int .i64 0, .string ⟨#[]⟩, .slice none 0 0, .slice none 0 0] 25)
              have HZx := hideK (BXZ.new (be := be) hS.lt)
              replace HVx := hideK (HVx.out.box (.cells #[.int .i64 0, .int .i64 0, .string ⟨#[]⟩, .slice none 0 0, .slice none 0 0] 25))
              refine hK.out _ _ hSn ?_
              clear hS hK K hSn
              intro hS
              generalize V1.heap.size = ox at *
              generalize World.alloc V1 (.cells #[.int .i64 0, .int .i64 0, .string ⟨#[]⟩, .slice none 0 0, .slice none 0 0] 25) = V2 at *
              refine wpAnyH_ready (rs := [6, 9]) (by kernel_rfl) (by simp) (AllReadyH.cons rfl (fun K hK => ?_) (AllReadyH.cons rfl (fun K hK => ?_) AllReadyH.nil))
              · go_simp
                have hSn := hS.al (.cells #[.int .i64 s.kind, .int .i64 s.so, .string s.name, .slice sal s.labels.length scl, .slice sak s.kids.length sck, .int .i64 1, .int .i64 0, .string ⟨#[]⟩, .slice none 0 0, .slice none 0 0] 25)
                have HVy := hideK (tv_row hS.bl HS.out [ox] (bs1 hS HZx.out))
                replace HZx := hideK (HZx.out.al (.cells #[.int .i64 s.kind, .int .i64 s.so, .string s.name, .slice sal s.labels.length scl, .slice sak s.kids.length sck, .int .i64 1, .int .i64 0, .string ⟨#[]⟩, .slice none 0 0, .slice none 0 0] 25))
                replace HVx := hideK (HVx.out.al (.cells #[.int .i64 s.kind, .int .i64 s.so, .string s.name, .slice sal s.labels.length scl, .slice sak s.kids.length sck, .int .i64 1, .int .i64 0, .string ⟨#[]⟩, .slice none 0 0, .slice none 0 0] 25))
                refine hK.out _ _ hSn ?_
                clear hS hK K hSn
                intro hS
                generalize V2.heap.size = ry at *
                generalize World.alloc V2 (.cells #[.int .i64 s.kind, .int .i64 s.so, .string s.name, .slice sal s.labels.length scl, .slice sak s.kids.length sck, .int .i64 1, .int .i64 0, .string ⟨#[]⟩, .slice none 0 0, .slice none 0 0] 25) = V3 at *
                refine wpAnyH_take (i := 7) (v := (.agg #[.int .i64 4, .int .i64 0, .string ⟨#[]⟩, .slice none 0 0, .slice (some ⟨ry, 0, none⟩) 2 2])) rfl (by kernel_rfl) (by kernel_rfl) (by kernel_rfl) (fun _ _ _ h => h) (Or.inl ⟨by rfl, fun W hW => by go_simp⟩) hS ?_
                refine take_oneHL 9 (AllReadyH.cons rfl (fun K hK => ?_) AllReadyH.nil) (by kernel_rfl)
                go_simp
                have hSn := hS.al (.cells #[.int .i64 0, .int .i64 0, .string ⟨#[]⟩, .slice none 0 0, .slice none 0 0] 25)
                have HZy := hideK (BXZ.new (be := be) hS.lt)
                have HNE := hideK (show ox ≠ V3.heap.size from by have := HZx.out.lt; omega)
                replace HZx := hideK (HZx.out.al (.cells #[.int .i64 0, .int .i64 0, .string ⟨#[]⟩, .slice none 0 0, .slice none 0 0] 25))
                replace HVx := hideK (HVx.out.box (.cells #[.int .i64 0, .int .i64 0, .string ⟨#[]⟩, .slice none 0 0, .slice none 0 0] 25))
                replace HVy := hideK (HVy.out.box (.cells #[.int .i64 0, .int .i64 0, .string ⟨#[]⟩, .slice none 0 0, .slice none 0 0] 25))
                refine hK.out _ _ hSn ?_
                clear hS hK K hSn
                intro hS
                generalize V3.heap.size = oy at *
                generalize World.alloc V3 (.cells #[.int .i64 0, .int .i64 0, .string ⟨#[]⟩, .slice none 0 0, .slice none 0 0] 25) = V4 at *
                refine take_oneHL 10 (AllReadyH.cons rfl (fun K hK => ?_) AllReadyH.nil) (by kernel_rfl)
                obtain ⟨_, _, z0, z1, z2, z3, z4, zf⟩ := HZx.out
                have f0 := zf 0
                have f1 := zf 1
                have f2 := zf 2
                have f3 := zf 3
                have f4 := zf 4
                clear zf
                have hSn := hS.st (b := ox) HZx.out.lo (.int .i64 4) (.int .i64 0) (.string ⟨#[]⟩) (.slice none 0 0) (.slice (some ⟨rx, 0, none⟩) 2 2)
                have HOX := hideK HZx.out.lo
                have HTX := hideK (HVx.out.st (b := ox) (by simp) (.int .i64 4) (.int .i64 0) (.string ⟨#[]⟩) (.slice none 0 0) (.slice (some ⟨rx, 0, none⟩) 2 2))
                have HTA := hideK (show TyAt (st5 V4 ox 0 (.int .i64 4) (.int .i64 0) (.string ⟨#[]⟩) (.slice none 0 0) (.slice (some ⟨rx, 0, none⟩) 2 2)) ox 0 (gvT t) none 0 (some ⟨rx, 0, none⟩) 2 from HZx.out.ty (gvT t) none 0 (some ⟨rx, 0, none⟩) 2)
                have HLX := hideK (show ox < (st5 V4 ox 0 (.int .i64 4) (.int .i64 0) (.string ⟨#[]⟩) (.slice none 0 0) (.slice (some ⟨rx, 0, none⟩) 2 2)).heap.size from by rw [st5_size]; exact HZx.out.lt)
                replace HZy := hideK (HZy.out.st (b' := ox) HNE.out.symm (.int .i64 4) (.int .i64 0) (.string ⟨#[]⟩) (.slice none 0 0) (.slice (some ⟨rx, 0, none⟩) 2 2))
                replace HVy := hideK (HVy.out.st (b := ox) (by simp) (.int .i64 4) (.int .i64 0) (.string ⟨#[]⟩) (.slice none 0 0) (.slice (some ⟨rx, 0, none⟩) 2 2))
                clear HVx HZx
                go_simp
                refine hK.out _ _ hSn ?_
                clear hS hK K hSn z0 z1 z2 z3 z4 f0 f1 f2 f3 f4
                intro hS
                change wpAnyH _ _ _ _ _ _ _ _ (st5 V4 ox 0 (.int .i64 4) (.int .i64 0) (.string ⟨#[]⟩) (.slice none 0 0) (.slice (some ⟨rx, 0, none⟩) 2 2))
                change CGW _ _ _ _ _ _ _ _ _ _ _ _ (st5 V4 ox 0 (.int .i64 4) (.int .i64 0) (.string ⟨#[]⟩) (.slice none 0 0) (.slice (some ⟨rx, 0, none⟩) 2 2)) at hS
                generalize st5 V4 ox 0 (.int .i64 4) (.int .i64 0) (.string ⟨#[]⟩) (.slice none 0 0) (.slice (some ⟨rx, 0, none⟩) 2 2) = V5 at *
                refine take_oneHL 11 (AllReadyH.cons rfl (fun K hK => ?_) AllReadyH.nil) (by kernel_rfl)
                obtain ⟨_, _, z0, z1, z2, z3, z4, zf⟩ := HZy.out
                have f0 := zf 0
                have f1 := zf 1
                have f2 := zf 2
                have f3 := zf 3
                have f4 := zf 4
                clear zf
                have hSn := hS.st (b := oy) HZy.out.lo (.int .i64 4) (.int .i64 0) (.string ⟨#[]⟩) (.slice none 0 0) (.slice (some ⟨ry, 0, none⟩) 2 2)
                have HTY := hideK ((HVy.out.st (b := oy) (by simp) (.int .i64 4) (.int .i64 0) (.string ⟨#[]⟩) (.slice none 0 0) (.slice (some ⟨ry, 0, none⟩) 2 2)).tyb (show TyAt (st5 V5 oy 0 (.int .i64 4) (.int .i64 0) (.string ⟨#[]⟩) (.slice none 0 0) (.slice (some ⟨ry, 0, none⟩) 2 2)) oy 0 (gvT s) none 0 (some ⟨ry, 0, none⟩) 2 from HZy.out.ty (gvT s) none 0 (some ⟨ry, 0, none⟩) 2) (by rw [st5_size]; exact HZy.out.lt))
                have HTX2 := hideK ((HTX.out.st (b := oy) (by simp) (.int .i64 4) (.int .i64 0) (.string ⟨#[]⟩) (.slice none 0 0) (.slice (some ⟨ry, 0, none⟩) 2 2)).tyb (tyAt_st (b := oy) HNE.out (.int .i64 4) (.int .i64 0) (.string ⟨#[]⟩) (.slice none 0 0) (.slice (some ⟨ry, 0, none⟩) 2 2) HTA.out) (by rw [st5_size]; exact HLX.out))
                clear HVy HZy HTX HTA HLX HOX
                go_simp
                refine hK.out _ _ hSn ?_
                clear hS hK K hSn z0 z1 z2 z3 z4 f0 f1 f2 f3 f4
                intro hS
                change wpAnyH _ _ _ _ _ _ _ _ (st5 V5 oy 0 (.int .i64 4) (.int .i64 0) (.string ⟨#[]⟩) (.slice none 0 0) (.slice (some ⟨ry, 0, none⟩) 2 2))
                change CGW _ _ _ _ _ _ _ _ _ _ _ _ (st5 V5 oy 0 (.int .i64 4) (.int .i64 0) (.string ⟨#[]⟩) (.slice none 0 0) (.slice (some ⟨ry, 0, none⟩) 2 2)) at hS
                generalize st5 V5 oy 0 (.int .i64 4) (.int .i64 0) (.string ⟨#[]⟩) (.slice none 0 0) (.slice (some ⟨ry, 0, none⟩) 2 2) = V6 at *
                refine wpAnyH_done (by kernel_rfl) ?_ _
                go_wp2_with fail
                go_meet
                exact ⟨_, _, _, _, _, _, _, _, _, _, _, _, rfl, rfl, hS, HTX2.out, HTY.out⟩
              · go_simp
                have hSn := hS.al (.cells #[.int .i64 0, .int .i64 0, .string ⟨#[]⟩, .slice none 0 0, .slice none 0 0] 25)
                have HZy := hideK (BXZ.new (be := be) hS.lt)
                have HNE := hideK (show ox ≠ V2.heap.size from by have := HZx.out.lt; omega)
                replace HZx := hideK (HZx.out.al (.cells #[.int .i64 0, .int .i64 0, .string ⟨#[]⟩, .slice none 0 0, .slice none 0 0] 25))
                replace HVx := hideK (HVx.out.box (.cells #[.int .i64 0, .int .i64 0, .string ⟨#[]⟩, .slice none 0 0, .slice none 0 0] 25))
                refine hK.out _ _ hSn ?_
                clear hS hK K hSn
                intro hS
                generalize V2.heap.size = oy at *
                generalize World.alloc V2 (.cells #[.int .i64 0, .int .i64 0, .string ⟨#[]⟩, .slice none 0 0, .slice none 0 0] 25) = V3 at *
                refine wpAnyH_ready (rs := [6, 10]) (by kernel_rfl) (by simp) (AllReadyH.cons rfl (fun K hK => ?_) (AllReadyH.cons rfl (fun K hK => ?_) AllReadyH.nil))
                · go_simp
                  have hSn := hS.al (.cells #[.int .i64 s.kind, .int .i64 s.so, .string s.name, .slice sal s.labels.length scl, .slice sak s.kids.length sck, .int .i64 1, .int .i64 0, .string ⟨#[]⟩, .slice none 0 0, .slice none 0 0] 25)
                  have HVy := hideK (tv_row hS.bl HS.out [oy, ox] (bs2 hS HZy.out HZx.out))
                  replace HZx := hideK (HZx.out.al (.cells #[.int .i64 s.kind, .int .i64 s.so, .string s.name, .slice sal s.labels.length scl, .slice sak s.kids.length sck, .int .i64 1, .int .i64 0, .string ⟨#[]⟩, .slice none 0 0, .slice none 0 0] 25))
                  replace HZy := hideK (HZy.out.al (.cells #[.int .i64 s.kind, .int .i64 s.so, .string s.name, .slice sal s.labels.length scl, .slice sak s.kids.length sck, .int .i64 1, .int .i64 0, .string ⟨#[]⟩, .slice none 0 0, .slice none 0 0] 25))
                  replace HVx := hideK (HVx.out.al (.cells #[.int .i64 s.kind, .int .i64 s.so, .string s.name, .slice sal s.labels.length scl, .slice sak s.kids.length sck, .int .i64 1, .int .i64 0, .string ⟨#[]⟩, .slice none 0 0, .slice none 0 0] 25))
                  refine hK.out _ _ hSn ?_
                  clear hS hK K hSn
                  intro hS
                  generalize V3.heap.size = ry at *
                  generalize World.alloc V3 (.cells #[.int .i64 s.kind, .int .i64 s.so, .string s.name, .slice sal s.labels.length scl, .slice sak s.kids.length sck, .int .i64 1, .int .i64 0, .string ⟨#[]⟩, .slice none 0 0, .slice none 0 0] 25) = V4 at *
                  refine wpAnyH_take (i := 7) (v := (.agg #[.int .i64 4, .int .i64 0, .string ⟨#[]⟩, .slice none 0 0, .slice (some ⟨ry, 0, none⟩) 2 2])) rfl (by kernel_rfl) (by kernel_rfl) (by kernel_rfl) (fun _ _ _ h => h) (Or.inl ⟨by rfl, fun W hW => by go_simp⟩) hS ?_
                  refine take_oneHL 10 (AllReadyH.cons rfl (fun K hK => ?_) AllReadyH.nil) (by kernel_rfl)
                  obtain ⟨_, _, z0, z1, z2, z3, z4, zf⟩ := HZx.out
                  have f0 := zf 0
                  have f1 := zf 1
                  have f2 := zf 2
                  have f3 := zf 3
                  have f4 := zf 4
                  clear zf
                  have hSn := hS.st (b := ox) HZx.out.lo (.int .i64 4) (.int .i64 0) (.string ⟨#[]⟩) (.slice none 0 0) (.slice (some ⟨rx, 0, none⟩) 2 2)
                  have HOX := hideK HZx.out.lo
                  have HTX := hideK (HVx.out.st (b := ox) (by simp) (.int .i64 4) (.int .i64 0) (.string ⟨#[]⟩) (.slice none 0 0) (.slice (some ⟨rx, 0, none⟩) 2 2))
                  have HTA := hideK (show TyAt (st5 V4 ox 0 (.int .i64 4) (.int .i64 0) (.string ⟨#[]⟩) (.slice none 0 0) (.slice (some ⟨rx, 0, none⟩) 2 2)) ox 0 (gvT t) none 0 (some ⟨rx, 0, none⟩) 2 from HZx.out.ty (gvT t) none 0 (some ⟨rx, 0, none⟩) 2)
                  have HLX := hideK (show ox < (st5 V4 ox 0 (.int .i64 4) (.int .i64 0) (.string ⟨#[]⟩) (.slice none 0 0) (.slice (some ⟨rx, 0, none⟩) 2 2)).heap.size from by rw [st5_size]; exact HZx.out.lt)
                  replace HZy := hideK (HZy.out.st (b' := ox) HNE.out.symm (.int .i64 4) (.int .i64 0) (.string ⟨#[]⟩) (.slice none 0 0) (.slice (some ⟨rx, 0, none⟩) 2 2))
                  replace HVy := hideK (HVy.out.st (b := ox) (by simp) (.int .i64 4) (.int .i64 0) (.string ⟨#[]⟩) (.slice none 0 0) (.slice (some ⟨rx, 0, none⟩) 2 2))
                  clear HVx HZx
                  go_simp
                  refine hK.out _ _ hSn ?_
                  clear hS hK K hSn z0 z1 z2 z3 z4 f0 f1 f2 f3 f4
                  intro hS
                  change wpAnyH _ _ _ _ _ _ _ _ (st5 V4 ox 0 (.int .i64 4) (.int .i64 0) (.string ⟨#[]⟩) (.slice none 0 0) (.slice (some ⟨rx, 0, none⟩) 2 2))
                  change CGW _ _ _ _ _ _ _ _ _ _ _ _ (st5 V4 ox 0 (.int .i64 4) (.int .i64 0) (.string ⟨#[]⟩) (.slice none 0 0) (.slice (some ⟨rx, 0, none⟩) 2 2)) at hS
                  generalize st5 V4 ox 0 (.int .i64 4) (.int .i64 0) (.string ⟨#[]⟩) (.slice none 0 0) (.slice (some ⟨rx, 0, none⟩) 2 2) = V5 at *
                  refine take_oneHL 11 (AllReadyH.cons rfl (fun K hK => ?_) AllReadyH.nil) (by kernel_rfl)
                  obtain ⟨_, _, z0, z1, z2, z3, z4, zf⟩ := HZy.out
                  have f0 := zf 0
                  have f1 := zf 1
                  have f2 := zf 2
                  have f3 := zf 3
                  have f4 := zf 4
                  clear zf
                  have hSn := hS.st (b := oy) HZy.out.lo (.int .i64 4) (.int .i64 0) (.string ⟨#[]⟩) (.slice none 0 0) (.slice (some ⟨ry, 0, none⟩) 2 2)
                  have HTY := hideK ((HVy.out.st (b := oy) (by simp) (.int .i64 4) (.int .i64 0) (.string ⟨#[]⟩) (.slice none 0 0) (.slice (some ⟨ry, 0, none⟩) 2 2)).tyb (show TyAt (st5 V5 oy 0 (.int .i64 4) (.int .i64 0) (.string ⟨#[]⟩) (.slice none 0 0) (.slice (some ⟨ry, 0, none⟩) 2 2)) oy 0 (gvT s) none 0 (some ⟨ry, 0, none⟩) 2 from HZy.out.ty (gvT s) none 0 (some ⟨ry, 0, none⟩) 2) (by rw [st5_size]; exact HZy.out.lt))
                  have HTX2 := hideK ((HTX.out.st (b := oy) (by simp) (.int .i64 4) (.int .i64 0) (.string ⟨#[]⟩) (.slice none 0 0) (.slice (some ⟨ry, 0, none⟩) 2 2)).tyb (tyAt_st (b := oy) HNE.out (.int .i64 4) (.int .i64 0) (.string ⟨#[]⟩) (.slice none 0 0) (.slice (some ⟨ry, 0, none⟩) 2 2) HTA.out) (by rw [st5_size]; exact HLX.out))
                  clear HVy HZy HTX HTA HLX HOX
                  go_simp
                  refine hK.out _ _ hSn ?_
                  clear hS hK K hSn z0 z1 z2 z3 z4 f0 f1 f2 f3 f4
                  intro hS
                  change wpAnyH _ _ _ _ _ _ _ _ (st5 V5 oy 0 (.int .i64 4) (.int .i64 0) (.string ⟨#[]⟩) (.slice none 0 0) (.slice (some ⟨ry, 0, none⟩) 2 2))
                  change CGW _ _ _ _ _ _ _ _ _ _ _ _ (st5 V5 oy 0 (.int .i64 4) (.int .i64 0) (.string ⟨#[]⟩) (.slice none 0 0) (.slice (some ⟨ry, 0, none⟩) 2 2)) at hS
                  generalize st5 V5 oy 0 (.int .i64 4) (.int .i64 0) (.string ⟨#[]⟩) (.slice none 0 0) (.slice (some ⟨ry, 0, none⟩) 2 2) = V6 at *
                  refine wpAnyH_done (by kernel_rfl) ?_ _
                  go_wp2_with fail
                  go_meet
                  exact ⟨_, _, _, _, _, _, _, _, _, _, _, _, rfl, rfl, hS, HTX2.out, HTY.out⟩
                · obtain ⟨_, _, z0, z1, z2, z3, z4, zf⟩ := HZx.out
                  have f0 := zf 0
                  have f1 := zf 1
                  have f2 := zf 2
                  have f3 := zf 3
                  have f4 := zf 4
                  clear zf
                  have hSn := hS.st (b := ox) HZx.out.lo (.int .i64 4) (.int .i64 0) (.string ⟨#[]⟩) (.slice none 0 0) (.slice (some ⟨rx, 0, none⟩) 2 2)
                  have HOX := hideK HZx.out.lo
                  have HTX := hideK (HVx.out.st (b := ox) (by simp) (.int .i64 4) (.int .i64 0) (.string ⟨#[]⟩) (.slice none 0 0) (.slice (some ⟨rx, 0, none⟩) 2 2))
                  have HTA := hideK (show TyAt (st5 V3 ox 0 (.int .i64 4) (.int .i64 0) (.string ⟨#[]⟩) (.slice none 0 0) (.slice (some ⟨rx, 0, none⟩) 2 2)) ox 0 (gvT t) none 0 (some ⟨rx, 0, none⟩) 2 from HZx.out.ty (gvT t) none 0 (some ⟨rx, 0, none⟩) 2)
                  have HLX := hideK (show ox < (st5 V3 ox 0 (.int .i64 4) (.int .i64 0) (.string ⟨#[]⟩) (.slice none 0 0) (.slice (some ⟨rx, 0, none⟩) 2 2)).heap.size from by rw [st5_size]; exact HZx.out.lt)
                  replace HZy := hideK (HZy.out.st (b' := ox) HNE.out.symm (.int .i64 4) (.int .i64 0) (.string ⟨#[]⟩) (.slice none 0 0) (.slice (some ⟨rx, 0, none⟩) 2 2))
                  clear HVx HZx
                  go_simp
                  refine hK.out _ _ hSn ?_
                  clear hS hK K hSn z0 z1 z2 z3 z4 f0 f1 f2 f3 f4
                  intro hS
                  change wpAnyH _ _ _ _ _ _ _ _ (st5 V3 ox 0 (.int .i64 4) (.int .i64 0) (.string ⟨#[]⟩) (.slice none 0 0) (.slice (some ⟨rx, 0, none⟩) 2 2))
                  change CGW _ _ _ _ _ _ _ _ _ _ _ _ (st5 V3 ox 0 (.int .i64 4) (.int .i64 0) (.string ⟨#[]⟩) (.slice none 0 0) (.slice (some ⟨rx, 0, none⟩) 2 2)) at hS
                  generalize st5 V3 ox 0 (.int .i64 4) (.int .i64 0) (.string ⟨#[]⟩) (.slice none 0 0) (.slice (some ⟨rx, 0, none⟩) 2 2) = V4 at *
                  refine take_oneHL 6 (AllReadyH.cons rfl (fun K hK => ?_) AllReadyH.nil) (by kernel_rfl)
                  go_simp
                  have hSn := hS.al (.cells #[.int .i64 s.kind, .int .i64 s.so, .string s.name, .slice sal s.labels.length scl, .slice sak s.kids.length sck, .int .i64 1, .int .i64 0, .string ⟨#[]⟩, .slice none 0 0, .slice none 0 0] 25)
                  have HVy := hideK (tv_row hS.bl HS.out [oy, ox] (bsB hS HOX.out HLX.out HZy.out))
                  replace HZy := hideK (HZy.out.al (.cells #[.int .i64 s.kind, .int .i64 s.so, .string s.name, .slice sal s.labels.length scl, .slice sak s.kids.length sck, .int .i64 1, .int .i64 0, .string ⟨#[]⟩, .slice none 0 0, .slice none 0 0] 25))
                  replace HTX := hideK (HTX.out.al (.cells #[.int .i64 s.kind, .int .i64 s.so, .string s.name, .slice sal s.labels.length scl, .slice sak s.kids.length sck, .int .i64 1, .int .i64 0, .string ⟨#[]⟩, .slice none 0 0, .slice none 0 0] 25))
                  replace HTA := hideK (HTA.out.keep ((Below.refl _ _).alloc (Nat.le_refl _) (.cells #[.int .i64 s.kind, .int .i64 s.so, .string s.name, .slice sal s.labels.length scl, .slice sak s.kids.length sck, .int .i64 1, .int .i64 0, .string ⟨#[]⟩, .slice none 0 0, .slice none 0 0] 25)) HLX.out)
                  replace HLX := hideK (show ox < (World.alloc V4 (.cells #[.int .i64 s.kind, .int .i64 s.so, .string s.name, .slice sal s.labels.length scl, .slice sak s.kids.length sck, .int .i64 1, .int .i64 0, .string ⟨#[]⟩, .slice none 0 0, .slice none 0 0] 25)).heap.size from by have := HLX.out; simp; omega)
                  refine hK.out _ _ hSn ?_
                  clear hS hK K hSn
                  intro hS
                  generalize V4.heap.size = ry at *
                  generalize World.alloc V4 (.cells #[.int .i64 s.kind, .int .i64 s.so, .string s.name, .slice sal s.labels.length scl, .slice sak s.kids.length sck, .int .i64 1, .int .i64 0, .string ⟨#[]⟩, .slice none 0 0, .slice none 0 0] 25) = V5 at *
                  refine wpAnyH_take (i := 7) (v := (.agg #[.int .i64 4, .int .i64 0, .string ⟨#[]⟩, .slice none 0 0, .slice (some ⟨ry, 0, none⟩) 2 2])) rfl (by kernel_rfl) (by kernel_rfl) (by kernel_rfl) (fun _ _ _ h => h) (Or.inl ⟨by rfl, fun W hW => by go_simp⟩) hS ?_
                  refine take_oneHL 11 (AllReadyH.cons rfl (fun K hK => ?_) AllReadyH.nil) (by kernel_rfl)
                  obtain ⟨_, _, z0, z1, z2, z3, z4, zf⟩ := HZy.out
                  have f0 := zf 0
                  have f1 := zf 1
                  have f2 := zf 2
                  have f3 := zf 3
                  have f4 := zf 4
                  clear zf
                  have hSn := hS.st (b := oy) HZy.out.lo (.int .i64 4) (.int .i64 0) (.string ⟨#[]⟩) (.slice none 0 0) (.slice (some ⟨ry, 0, none⟩) 2 2)
                  have HTY := hideK ((HVy.out.st (b := oy) (by simp) (.int .i64 4) (.int .i64 0) (.string ⟨#[]⟩) (.slice none 0 0) (.slice (some ⟨ry, 0, none⟩) 2 2)).tyb (show TyAt (st5 V5 oy 0 (.int .i64 4) (.int .i64 0) (.string ⟨#[]⟩) (.slice none 0 0) (.slice (some ⟨ry, 0, none⟩) 2 2)) oy 0 (gvT s) none 0 (some ⟨ry, 0, none⟩) 2 from HZy.out.ty (gvT s) none 0 (some ⟨ry, 0, none⟩) 2) (by rw [st5_size]; exact HZy.out.lt))
                  have HTX2 := hideK ((HTX.out.st (b := oy) (by simp) (.int .i64 4) (.int .i64 0) (.string ⟨#[]⟩) (.slice none 0 0) (.slice (some ⟨ry, 0, none⟩) 2 2)).tyb (tyAt_st (b := oy) HNE.out (.int .i64 4) (.int .i64 0) (.string ⟨#[]⟩) (.slice none 0 0) (.slice (some ⟨ry, 0, none⟩) 2 2) HTA.out) (by rw [st5_size]; exact HLX.out))
                  clear HVy HZy HTX HTA HLX HOX
                  go_simp
                  refine hK.out _ _ hSn ?_
                  clear hS hK K hSn z0 z1 z2 z3 z4 f0 f1 f2 f3 f4
                  intro hS
                  change wpAnyH _ _ _ _ _ _ _ _ (st5 V5 oy 0 (.int .i64 4) (.int .i64 0) (.string ⟨#[]⟩) (.slice none 0 0) (.slice (some ⟨ry, 0, none⟩) 2 2))
                  change CGW _ _ _ _ _ _ _ _ _ _ _ _ (st5 V5 oy 0 (.int .i64 4) (.int .i64 0) (.string ⟨#[]⟩) (.slice none 0 0) (.slice (some ⟨ry, 0, none⟩) 2 2)) at hS
                  generalize st5 V5 oy 0 (.int .i64 4) (.int .i64 0) (.string ⟨#[]⟩) (.slice none 0 0) (.slice (some ⟨ry, 0, none⟩) 2 2) = V6 at *
                  refine wpAnyH_done (by kernel_rfl) ?_ _
                  go_wp2_with fail
                  go_meet
                  exact ⟨_, _, _, _, _, _, _, _, _, _, _, _, rfl, rfl, hS, HTX2.out, HTY.out⟩
            · go_simp
              have hSn := hS.al (.cells #[.int .i64 0, .int .i64 0, .string ⟨#[]⟩, .slice none 0 0, .slice none 0 0] 25)
              have HZy := hideK (BXZ.new (be := be) hS.lt)
              replace HVx := hideK (HVx.out.box (.cells #[.int .i64 0, .int .i64 0, .string ⟨#[]⟩, .slice none 0 0, .slice none 0 0] 25))
              refine hK.out _ _ hSn ?_
              clear hS hK K hSn
              intro hS
              generalize V1.heap.size = oy at *
              generalize World.alloc V1 (.cells #[.int .i64 0, .int .i64 0, .string ⟨#[]⟩, .slice none 0 0, .slice none 0 0] 25) = V2 at *
              refine wpAnyH_ready (rs := [6, 8]) (by kernel_rfl) (by simp) (AllReadyH.cons rfl (fun K hK => ?_) (AllReadyH.cons rfl (fun K hK => ?_) AllReadyH.nil))
              · go_simp
                have hSn := hS.al (.cells #[.int .i64 s.kind, .int .i64 s.so, .string s.name, .slice sal s.labels.length scl, .slice sak s.kids.length sck, .int .i64 1, .int .i64 0, .string ⟨#[]⟩, .slice none 0 0, .slice none 0 0] 25)
                have HVy := hideK (tv_row hS.bl HS.out [oy] (bs1 hS HZy.out))
                replace HZy := hideK (HZy.out.al (.cells #[.int .i64 s.kind, .int .i64 s.so, .string s.name, .slice sal s.labels.length scl, .slice sak s.kids.length sck, .int .i64 1, .int .i64 0, .string ⟨#[]⟩, .slice none 0 0, .slice none 0 0] 25))
                replace HVx := hideK (HVx.out.al (.cells #[.int .i64 s.kind, .int .i64 s.so, .string s.name, .slice sal s.labels.length scl, .slice sak s.kids.length sck, .int .i64 1, .int .i64 0, .string ⟨#[]⟩, .slice none 0 0, .slice none 0 0] 25))
                refine hK.out _ _ hSn ?_
                clear hS hK K hSn
                intro hS
                generalize V2.heap.size = ry at *
                generalize World.alloc V2 (.cells #[.int .i64 s.kind, .int .i64 s.so, .string s.name, .slice sal s.labels.length scl, .slice sak s.kids.length sck, .int .i64 1, .int .i64 0, .string ⟨#[]⟩, .slice none 0 0, .slice none 0 0] 25) = V3 at *
                refine wpAnyH_take (i := 7) (v := (.agg #[.int .i64 4, .int .i64 0, .string ⟨#[]⟩, .slice none 0 0, .slice (some ⟨ry, 0, none⟩) 2 2])) rfl (by kernel_rfl) (by kernel_rfl) (by kernel_rfl) (fun _ _ _ h => h) (Or.inl ⟨by rfl, fun W hW => by go_simp⟩) hS ?_
                refine take_oneHL 8 (AllReadyH.cons rfl (fun K hK => ?_) AllReadyH.nil) (by kernel_rfl)
                go_simp
                have hSn := hS.al (.cells #[.int .i64 0, .int .i64 0, .string ⟨#[]⟩, .slice none 0 0, .slice none 0 0] 25)
                have HZx := hideK (BXZ.new (be := be) hS.lt)
                have HNE := hideK (show oy ≠ V3.heap.size from by have := HZy.out.lt; omega)
                replace HZy := hideK (HZy.out.al (.cells #[.int .i64 0, .int .i64 0, .string ⟨#[]⟩, .slice none 0 0, .slice none 0 0] 25))
                replace HVx := hideK (HVx.out.box (.cells #[.int .i64 0, .int .i64 0, .string ⟨#[]⟩, .slice none 0 0, .slice none 0 0] 25))
                replace HVy := hideK (HVy.out.box (.cells #[.int .i64 0, .int .i64 0, .string ⟨#[]⟩, .slice none 0 0, .slice none 0 0] 25))
                refine hK.out _ _ hSn ?_
                clear hS hK K hSn
                intro hS
                generalize V3.heap.size = ox at *
                generalize World.alloc V3 (.cells #[.int .i64 0, .int .i64 0, .string ⟨#[]⟩, .slice none 0 0, .slice none 0 0] 25) = V4 at *
                refine take_oneHL 10 (AllReadyH.cons rfl (fun K hK => ?_) AllReadyH.nil) (by kernel_rfl)
                obtain ⟨_, _, z0, z1, z2, z3, z4, zf⟩ := HZx.out
                have f0 := zf 0
                have f1 := zf 1
                have f2 := zf 2
                have f3 := zf 3
                have f4 := zf 4
                clear zf
                have hSn := hS.st (b := ox) HZx.out.lo (.int .i64 4) (.int .i64 0) (.string ⟨#[]⟩) (.slice none 0 0) (.slice (some ⟨rx, 0, none⟩) 2 2)
                have HOX := hideK HZx.out.lo
                have HTX := hideK (HVx.out.st (b := ox) (by simp) (.int .i64 4) (.int .i64 0) (.string ⟨#[]⟩) (.slice none 0 0) (.slice (some ⟨rx, 0, none⟩) 2 2))
                have HTA := hideK (show TyAt (st5 V4 ox 0 (.int .i64 4) (.int .i64 0) (.string ⟨#[]⟩) (.slice none 0 0) (.slice (some ⟨rx, 0, none⟩) 2 2)) ox 0 (gvT t) none 0 (some ⟨rx, 0, none⟩) 2 from HZx.out.ty (gvT t) none 0 (some ⟨rx, 0, none⟩) 2)
                have HLX := hideK (show ox < (st5 V4 ox 0 (.int .i64 4) (.int .i64 0) (.string ⟨#[]⟩) (.slice none 0 0) (.slice (some ⟨rx, 0, none⟩) 2 2)).heap.size from by rw [st5_size]; exact HZx.out.lt)
                replace HZy := hideK (HZy.out.st (b' := ox) HNE.out (.int .i64 4) (.int .i64 0) (.string ⟨#[]⟩) (.slice none 0 0) (.slice (some ⟨rx, 0, none⟩) 2 2))
                replace HVy := hideK (HVy.out.st (b := ox) (by simp) (.int .i64 4) (.int .i64 0) (.string ⟨#[]⟩) (.slice none 0 0) (.slice (some ⟨rx, 0, none⟩) 2 2))
                clear HVx HZx
                go_simp
                refine hK.out _ _ hSn ?_
                clear hS hK K hSn z0 z1 z2 z3 z4 f0 f1 f2 f3 f4
                intro hS
                change wpAnyH _ _ _ _ _ _ _ _ (st5 V4 ox 0 (.int .i64 4) (.int .i64 0) (.string ⟨#[]⟩) (.slice none 0 0) (.slice (some ⟨rx, 0, none⟩) 2 2))
                change CGW _ _ _ _ _ _ _ _ _ _ _ _ (st5 V4 ox 0 (.int .i64 4) (.int .i64 0) (.string ⟨#[]⟩) (.slice none 0 0) (.slice (some ⟨rx, 0, none⟩) 2 2)) at hS
                generalize st5 V4 ox 0 (.int .i64 4) (.int .i64 0) (.string ⟨#[]⟩) (.slice none 0 0) (.slice (some ⟨rx, 0, none⟩) 2 2) = V5 at *
                refine take_oneHL 11 (AllReadyH.cons rfl (fun K hK => ?_) AllReadyH.nil) (by kernel_rfl)
                obtain ⟨_, _, z0, z1, z2, z3, z4, zf⟩ := HZy.out
                have f0 := zf 0
                have f1 := zf 1
                have f2 := zf 2
                have f3 := zf 3
                have f4 := zf 4
                clear zf
                have hSn := hS.st (b := oy) HZy.out.lo (.int .i64 4) (.int .i64 0) (.string ⟨#[]⟩) (.slice none 0 0) (.slice (some ⟨ry, 0, none⟩) 2 2)
                have HTY := hideK ((HVy.out.st (b := oy) (by simp) (.int .i64 4) (.int .i64 0) (.string ⟨#[]⟩) (.slice none 0 0) (.slice (some ⟨ry, 0, none⟩) 2 2)).tyb (show TyAt (st5 V5 oy 0 (.int .i64 4) (.int .i64 0) (.string ⟨#[]⟩) (.slice none 0 0) (.slice (some ⟨ry, 0, none⟩) 2 2)) oy 0 (gvT s) none 0 (some ⟨ry, 0, none⟩) 2 from HZy.out.ty (gvT s) none 0 (some ⟨ry, 0, none⟩) 2) (by rw [st5_size]; exact HZy.out.lt))
                have HTX2 := hideK ((HTX.out.st (b := oy) (by simp) (.int .i64 4) (.int .i64 0) (.string ⟨#[]⟩) (.slice none 0 0) (.slice (some ⟨ry, 0, none⟩) 2 2)).tyb (tyAt_st (b := oy) HNE.out.symm (.int .i64 4) (.int .i64 0) (.string ⟨#[]⟩) (.slice none 0 0) (.slice (some ⟨ry, 0, none⟩) 2 2) HTA.out) (by rw [st5_size]; exact HLX.out))
                clear HVy HZy HTX HTA HLX HOX
                go_simp
                refine hK.out _ _ hSn ?_
                clear hS hK K hSn z0 z1 z2 z3 z4 f0 f1 f2 f3 f4
                intro hS
                change wpAnyH _ _ _ _ _ _ _ _ (st5 V5 oy 0 (.int .i64 4) (.int .i64 0) (.string ⟨#[]⟩) (.slice none 0 0) (.slice (some ⟨ry, 0, none⟩) 2 2))
                change CGW _ _ _ _ _ _ _ _ _ _ _ _ (st5 V5 oy 0 (.int .i64 4) (.int .i64 0) (.string ⟨#[]⟩) (.slice none 0 0) (.slice (some ⟨ry, 0, none⟩) 2 2)) at hS
                generalize st5 V5 oy 0 (.int .i64 4) (.int .i64 0) (.string ⟨#[]⟩) (.slice none 0 0) (.slice (some ⟨ry, 0, none⟩) 2 2) = V6 at *
                refine wpAnyH_done (by kernel_rfl) ?_ _
                go_wp2_with fail
                go_meet
                exact ⟨_, _, _, _, _, _, _, _, _, _, _, _, rfl, rfl, hS, HTX2.out, HTY.out⟩
              · go_simp
                have hSn := hS.al (.cells #[.int .i64 0, .int .i64 0, .string ⟨#[]⟩, .slice none 0 0, .slice none 0 0] 25)
                have HZx := hideK (BXZ.new (be := be) hS.lt)
                have HNE := hideK (show oy ≠ V2.heap.size from by have := HZy.out.lt; omega)
                replace HZy := hideK (HZy.out.al (.cells #[.int .i64 0, .int .i64 0, .string ⟨#[]⟩, .slice none 0 0, .slice none 0 0] 25))
                replace HVx := hideK (HVx.out.box (.cells #[.int .i64 0, .int .i64 0, .string ⟨#[]⟩, .slice none 0 0, .slice none 0 0] 25))
                refine hK.out _ _ hSn ?_
                clear hS hK K hSn
                intro hS
                generalize V2.heap.size = ox at *
                generalize World.alloc V2 (.cells #[.int .i64 0, .int .i64 0, .string ⟨#[]⟩, .slice none 0 0, .slice none 0 0] 25) = V3 at *
                refine wpAnyH_ready (rs := [6, 10]) (by kernel_rfl) (by simp) (AllReadyH.cons rfl (fun K hK => ?_) (AllReadyH.cons rfl (fun K hK => ?_) AllReadyH.nil))
                · go_simp
                  have hSn := hS.al (.cells #[.int .i64 s.kind, .int .i64 s.so, .string s.name, .slice sal s.labels.length scl, .slice sak s.kids.length sck, .int .i64 1, .int .i64 0, .string ⟨#[]⟩, .slice none 0 0, .slice none 0 0] 25)
                  have HVy := hideK (tv_row hS.bl HS.out [ox, oy] (bs2 hS HZx.out HZy.out))
                  replace HZy := hideK (HZy.out.al (.cells #[.int .i64 s.kind, .int .i64 s.so, .string s.name, .slice sal s.labels.length scl, .slice sak s.kids.length sck, .int .i64 1, .int .i64 0, .string ⟨#[]⟩, .slice none 0 0, .slice none 0 0] 25))
                  replace HZx := hideK (HZx.out.al (.cells #[.int .i64 s.kind, .int .i64 s.so, .string s.name, .slice sal s.labels.length scl, .slice sak s.kids.length sck, .int .i64 1, .int .i64 0, .string ⟨#[]⟩, .slice none 0 0, .slice none 0 0] 25))
                  replace HVx := hideK (HVx.out.al (.cells #[.int .i64 s.kind, .int .i64 s.so, .string s.name, .slice sal s.labels.length scl, .slice sak s.kids.length sck, .int .i64 1, .int .i64 0, .string ⟨#[]⟩, .slice none 0 0, .slice none 0 0] 25))
                  refine hK.out _ _ hSn ?_
                  clear hS hK K hSn
                  intro hS
                  generalize V3.heap.size = ry at *
                  generalize World.alloc V3 (.cells #[.int .i64 s.kind, .int .i64 s.so, .string s.name, .slice sal s.labels.length scl, .slice sak s.kids.length sck, .int .i64 1, .int .i64 0, .string ⟨#[]⟩, .slice none 0 0, .slice none 0 0] 25) = V4 at *
                  refine wpAnyH_take (i := 7) (v := (.agg #[.int .i64 4, .int .i64 0, .string ⟨#[]⟩, .slice none 0 0, .slice (some ⟨ry, 0, none⟩) 2 2])) rfl (by kernel_rfl) (by kernel_rfl) (by kernel_rfl) (fun _ _ _ h => h) (Or.inl ⟨by rfl, fun W hW => by go_simp⟩) hS ?_
                  refine take_oneHL 10 (AllReadyH.cons rfl (fun K hK => ?_) AllReadyH.nil) (by kernel_rfl)
                  obtain ⟨_, _, z0, z1, z2, z3, z4, zf⟩ := HZx.out
                  have f0 := zf 0
                  have f1 := zf 1
                  have f2 := zf 2
                  have f3 := zf 3
                  have f4 := zf 4
                  clear zf
                  have hSn := hS.st (b := ox) HZx.out.lo (.int .i64 4) (.int .i64 0) (.string ⟨#[]⟩) (.slice none 0 0) (.slice (some ⟨rx, 0, none⟩) 2 2)
                  have HOX := hideK HZx.out.lo
                  have HTX := hideK (HVx.out.st (b := ox) (by simp) (.int .i64 4) (.int .i64 0) (.string ⟨#[]⟩) (.slice none 0 0) (.slice (some ⟨rx, 0, none⟩) 2 2))
                  have HTA := hideK (show TyAt (st5 V4 ox 0 (.int .i64 4) (.int .i64 0) (.string ⟨#[]⟩) (.slice none 0 0) (.slice (some ⟨rx, 0, none⟩) 2 2)) ox 0 (gvT t) none 0 (some ⟨rx, 0, none⟩) 2 from HZx.out.ty (gvT t) none 0 (some ⟨rx, 0, none⟩) 2)
                  have HLX := hideK (show ox < (st5 V4 ox 0 (.int .i64 4) (.int .i64 0) (.string ⟨#[]⟩) (.slice none 0 0) (.slice (some ⟨rx, 0, none⟩) 2 2)).heap.size from by rw [st5_size]; exact HZx.out.lt)
                  replace HZy := hideK (HZy.out.st (b' := ox) HNE.out (.int .i64 4) (.int .i64 0) (.string ⟨#[]⟩) (.slice none 0 0) (.slice (some ⟨rx, 0, none⟩) 2 2))
                  replace HVy := hideK (HVy.out.st (b := ox) (by simp) (.int .i64 4) (.int .i64 0) (.string ⟨#[]⟩) (.slice none 0 0) (.slice (some ⟨rx, 0, none⟩) 2 2))
                  clear HVx HZx
                  go_simp
                  refine hK.out _ _ hSn ?_
                  clear hS hK K hSn z0 z1 z2 z3 z4 f0 f1 f2 f3 f4
                  intro hS
                  change wpAnyH _ _ _ _ _ _ _ _ (st5 V4 ox 0 (.int .i64 4) (.int .i64 0) (.string ⟨#[]⟩) (.slice none 0 0) (.slice (some ⟨rx, 0, none⟩) 2 2))
                  change CGW _ _ _ _ _ _ _ _ _ _ _ _ (st5 V4 ox 0 (.int .i64 4) (.int .i64 0) (.string ⟨#[]⟩) (.slice none 0 0) (.slice (some ⟨rx, 0, none⟩) 2 2)) at hS
                  generalize st5 V4 ox 0 (.int .i64 4) (.int .i64 0) (.string ⟨#[]⟩) (.slice none 0 0) (.slice (some ⟨rx, 0, none⟩) 2 2) = V5 at *
                  refine take_oneHL 11 (AllReadyH.cons rfl (fun K hK => ?_) AllReadyH.nil) (by kernel_rfl)
                  obtain ⟨_, _, z0, z1, z2, z3, z4, zf⟩ := HZy.out
                  have f0 := zf 0
                  have f1 := zf 1
                  have f2 := zf 2
                  have f3 := zf 3
                  have f4 := zf 4
                  clear zf
                  have hSn := hS.st (b := oy) HZy.out.lo (.int .i64 4) (.int .i64 0) (.string ⟨#[]⟩) (.slice none 0 0) (.slice (some ⟨ry, 0, none⟩) 2 2)
                  have HTY := hideK ((HVy.out.st (b := oy) (by simp) (.int .i64 4) (.int .i64 0) (.string ⟨#[]⟩) (.slice none 0 0) (.slice (some ⟨ry, 0, none⟩) 2 2)).tyb (show TyAt (st5 V5 oy 0 (.int .i64 4) (.int .i64 0) (.string ⟨#[]⟩) (.slice none 0 0) (.slice (some ⟨ry, 0, none⟩) 2 2)) oy 0 (gvT s) none 0 (some ⟨ry, 0, none⟩) 2 from HZy.out.ty (gvT s) none 0 (some ⟨ry, 0, none⟩) 2) (by rw [st5_size]; exact HZy.out.lt))
                  have HTX2 := hideK ((HTX.out.st (b := oy) (by simp) (.int .i64 4) (.int .i64 0) (.string ⟨#[]⟩) (.slice none 0 0) (.slice (some ⟨ry, 0, none⟩) 2 2)).tyb (tyAt_st (b := oy) HNE.out.symm (.int .i64 4) (.int .i64 0) (.string ⟨#[]⟩) (.slice none 0 0) (.slice (some ⟨ry, 0, none⟩) 2 2) HTA.out) (by rw [st5_size]; exact HLX.out))
                  clear HVy HZy HTX HTA HLX HOX
                  go_simp
                  refine hK.out _ _ hSn ?_
                  clear hS hK K hSn z0 z1 z2 z3 z4 f0 f1 f2 f3 f4
                  intro hS
                  change wpAnyH _ _ _ _ _ _ _ _ (st5 V5 oy 0 (.int .i64 4) (.int .i64 0) (.string ⟨#[]⟩) (.slice none 0 0) (.slice (some ⟨ry, 0, none⟩) 2 2))
                  change CGW _ _ _ _ _ _ _ _ _ _ _ _ (st5 V5 oy 0 (.int .i64 4) (.int .i64 0) (.string ⟨#[]⟩) (.slice none 0 0) (.slice (some ⟨ry, 0, none⟩) 2 2)) at hS
                  generalize st5 V5 oy 0 (.int .i64 4) (.int .i64 0) (.string ⟨#[]⟩) (.slice none 0 0) (.slice (some ⟨ry, 0, none⟩) 2 2) = V6 at *
                  refine wpAnyH_done (by kernel_rfl) ?_ _
                  go_wp2_with fail
                  go_meet
                  exact ⟨_, _, _, _, _, _, _, _, _, _, _, _, rfl, rfl, hS, HTX2.out, HTY.out⟩
                · obtain ⟨_, _, z0, z1, z2, z3, z4, zf⟩ := HZx.out
                  have f0 := zf 0
                  have f1 := zf 1
                  have f2 := zf 2
                  have f3 := zf 3
                  have f4 := zf 4
                  clear zf
                  have hSn := hS.st (b := ox) HZx.out.lo (.int .i64 4) (.int .i64 0) (.string ⟨#[]⟩) (.slice none 0 0) (.slice (some ⟨rx, 0, none⟩) 2 2)
                  have HOX := hideK HZx.out.lo
                  have HTX := hideK (HVx.out.st (b := ox) (by simp) (.int .i64 4) (.int .i64 0) (.string ⟨#[]⟩) (.slice none 0 0) (.slice (some ⟨rx, 0, none⟩) 2 2))
                  have HTA := hideK (show TyAt (st5 V3 ox 0 (.int .i64 4) (.int .i64 0) (.string ⟨#[]⟩) (.slice none 0 0) (.slice (some ⟨rx, 0, none⟩) 2 2)) ox 0 (gvT t) none 0 (some ⟨rx, 0, none⟩) 2 from HZx.out.ty (gvT t) none 0 (some ⟨rx, 0, none⟩) 2)
                  have HLX := hideK (show ox < (st5 V3 ox 0 (.int .i64 4) (.int .i64 0) (.string ⟨#[]⟩) (.slice none 0 0) (.slice (some ⟨rx, 0, none⟩) 2 2)).heap.size from by rw [st5_size]; exact HZx.out.lt)
                  replace HZy := hideK (HZy.out.st (b' := ox) HNE.out (.int .i64 4) (.int .i64 0) (.string ⟨#[]⟩) (.slice none 0 0) (.slice (some ⟨rx, 0, none⟩) 2 2))
                  clear HVx HZx
                  go_simp
                  refine hK.out _ _ hSn ?_
                  clear hS hK K hSn z0 z1 z2 z3 z4 f0 f1 f2 f3 f4
                  intro hS
                  change wpAnyH _ _ _ _ _ _ _ _ (st5 V3 ox 0 (.int .i64 4) (.int .i64 0) (.string ⟨#[]⟩) (.slice none 0 0) (.slice (some ⟨rx, 0, none⟩) 2 2))
                  change CGW _ _ _ _ _ _ _ _ _ _ _ _ (st5 V3 ox 0 (.int .i64 4) (.int .i64 0) (.string ⟨#[]⟩) (.slice none 0 0) (.slice (some ⟨rx, 0, none⟩) 2 2)) at hS
                  generalize st5 V3 ox 0 (.int .i64 4) (.int .i64 0) (.string ⟨#[]⟩) (.slice none 0 0) (.slice (some ⟨rx, 0, none⟩) 2 2) = V4 at *
                  refine take_oneHL 6 (AllReadyH.cons rfl (fun K hK => ?_) AllReadyH.nil) (by kernel_rfl)
                  go_simp
                  have hSn := hS.al (.cells #[.int .i64 s.kind, .int .i64 s.so, .string s.name, .slice sal s.labels.length scl, .slice sak s.kids.length sck, .int .i64 1, .int .i64 0, .string ⟨#[]⟩, .slice none 0 0, .slice none 0 0] 25)
                  have HVy := hideK (tv_row hS.bl HS.out [ox, oy] (bsA hS HOX.out HLX.out HZy.out))
                  replace HZy := hideK (HZy.out.al (.cells #[.int .i64 s.kind, .int .i64 s.so, .string s.name, .slice sal s.labels.length scl, .slice sak s.kids.length sck, .int .i64 1, .int .i64 0, .string ⟨#[]⟩, .slice none 0 0, .slice none 0 0] 25))
                  replace HTX := hideK (HTX.out.al (.cells #[.int .i64 s.kind, .int .i64 s.so, .string s.name, .slice sal s.labels.length scl, .slice sak s.kids.length sck, .int .i64 1, .int .i64 0, .string ⟨#[]⟩, .slice none 0 0, .slice none 0 0] 25))
                  replace HTA := hideK (HTA.out.keep ((Below.refl _ _).alloc (Nat.le_refl _) (.cells #[.int .i64 s.kind, .int .i64 s.so, .string s.name, .slice sal s.labels.length scl, .slice sak s.kids.length sck, .int .i64 1, .int .i64 0, .string ⟨#[]⟩, .slice none 0 0, .slice none 0 0] 25)) HLX.out)
                  replace HLX := hideK (show ox < (World.alloc V4 (.cells #[.int .i64 s.kind, .int .i64 s.so, .string s.name, .slice sal s.labels.length scl, .slice sak s.kids.length sck, .int .i64 1, .int .i64 0, .string ⟨#[]⟩, .slice none 0 0, .slice none 0 0] 25)).heap.size from by have := HLX.out; simp; omega)
                  refine hK.out _ _ hSn ?_
                  clear hS hK K hSn
                  intro hS
                  generalize V4.heap.size = ry at *
                  generalize World.alloc V4 (.cells #[.int .i64 s.kind, .int .i64 s.so, .string s.name, .slice sal s.labels.length scl, .slice sak s.kids.length sck, .int .i64 1, .int .i64 0, .string ⟨#[]⟩, .slice none 0 0, .slice none 0 0] 25) = V5 at *
                  refine wpAnyH_take (i := 7) (v := (.agg #[.int .i64 4, .int .i64 0, .string ⟨#[]⟩, .slice none 0 0, .slice (some ⟨ry, 0, none⟩) 2 2])) rfl (by kernel_rfl) (by kernel_rfl) (by kernel_rfl) (fun _ _ _ h => h) (Or.inl ⟨by rfl, fun W hW => by go_simp⟩) hS ?_
                  refine take_oneHL 11 (AllReadyH.cons rfl (fun K hK => ?_) AllReadyH.nil) (by kernel_rfl)
                  obtain ⟨_, _, z0, z1, z2, z3, z4, zf⟩ := HZy.out
                  have f0 := zf 0
                  have f1 := zf 1
                  have f2 := zf 2
                  have f3 := zf 3
                  have f4 := zf 4
                  clear zf
                  have hSn := hS.st (b := oy) HZy.out.lo (.int .i64 4) (.int .i64 0) (.string ⟨#[]⟩) (.slice none 0 0) (.slice (some ⟨ry, 0, none⟩) 2 2)
                  have HTY := hideK ((HVy.out.st (b := oy) (by simp) (.int .i64 4) (.int .i64 0) (.string ⟨#[]⟩) (.slice none 0 0) (.slice (some ⟨ry, 0, none⟩) 2 2)).tyb (show TyAt (st5 V5 oy 0 (.int .i64 4) (.int .i64 0) (.string ⟨#[]⟩) (.slice none 0 0) (.slice (some ⟨ry, 0, none⟩) 2 2)) oy 0 (gvT s) none 0 (some ⟨ry, 0, none⟩) 2 from HZy.out.ty (gvT s) none 0 (some ⟨ry, 0, none⟩) 2) (by rw [st5_size]; exact HZy.out.lt))
                  have HTX2 := hideK ((HTX.out.st (b := oy) (by simp) (.int .i64 4) (.int .i64 0) (.string ⟨#[]⟩) (.slice none 0 0) (.slice (some ⟨ry, 0, none⟩) 2 2)).tyb (tyAt_st (b := oy) HNE.out.symm (.int .i64 4) (.int .i64 0) (.string ⟨#[]⟩) (.slice none 0 0) (.slice (some ⟨ry, 0, none⟩) 2 2) HTA.out) (by rw [st5_size]; exact HLX.out))
                  clear HVy HZy HTX HTA HLX HOX
                  go_simp
                  refine hK.out _ _ hSn ?_
                  clear hS hK K hSn z0 z1 z2 z3 z4 f0 f1 f2 f3 f4
                  intro hS
                  change wpAnyH _ _ _ _ _ _ _ _ (st5 V5 oy 0 (.int .i64 4) (.int .i64 0) (.string ⟨#[]⟩) (.slice none 0 0) (.slice (some ⟨ry, 0, none⟩) 2 2))
                  change CGW _ _ _ _ _ _ _ _ _ _ _ _ (st5 V5 oy 0 (.int .i64 4) (.int .i64 0) (.string ⟨#[]⟩) (.slice none 0 0) (.slice (some ⟨ry, 0, none⟩) 2 2)) at hS
                  generalize st5 V5 oy 0 (.int .i64 4) (.int .i64 0) (.string ⟨#[]⟩) (.slice none 0 0) (.slice (some ⟨ry, 0, none⟩) 2 2) = V6 at *
                  refine wpAnyH_done (by kernel_rfl) ?_ _
                  go_wp2_with fail
                  go_meet
                  exact ⟨_, _, _, _, _, _, _, _, _, _, _, _, rfl, rfl, hS, HTX2.out, HTY.out⟩
          · go_simp
            have hSn := hS.al (.cells #[.int .i64 s.kind, .int .i64 s.so, .string s.name, .slice sal s.labels.length scl, .slice sak s.kids.length sck, .int .i64 1, .int .i64 0, .string ⟨#[]⟩, .slice none 0 0, .slice none 0 0] 25)
            have HVy := hideK (tv_row hS.bl HS.out [] bs0)
            refine hK.out _ _ hSn ?_
            clear hS hK K hSn
            intro hS
            generalize V0.heap.size = ry at *
            generalize World.alloc V0 (.cells #[.int .i64 s.kind, .int .i64 s.so, .string s.name, .slice sal s.labels.length scl, .slice sak s.kids.length sck, .int .i64 1, .int .i64 0, .string ⟨#[]⟩, .slice none 0 0, .slice none 0 0] 25) = V1 at *
            refine wpAnyH_take (i := 7) (v := (.agg #[.int .i64 4, .int .i64 0, .string ⟨#[]⟩, .slice none 0 0, .slice (some ⟨ry, 0, none⟩) 2 2])) rfl (by kernel_rfl) (by kernel_rfl) (by kernel_rfl) (fun _ _ _ h => h) (Or.inl ⟨by rfl, fun W hW => by go_simp⟩) hS ?_
            refine wpAnyH_ready (rs := [2, 8, 9]) (by kernel_rfl) (by simp) (AllReadyH.cons rfl (fun K hK => ?_) (AllReadyH.cons rfl (fun K hK => ?_) (AllReadyH.cons rfl (fun K hK => ?_) AllReadyH.nil)))
            · go_simp
              have hSn := hS.al (.cells #[.int .i64 t.kind, .int .i64 t.so, .string t.name, .slice al t.labels.length cl, .slice ak t.kids.length ck, .int .i64 1, .int .i64 0, .string ⟨#[]⟩, .slice none 0 0, .slice none 0 0] 25)
              have HVx := hideK (tv_row hS.bl HT.out [] bs0)
              replace HVy := hideK (HVy.out.al (.cells #[.int .i64 t.kind, .int .i64 t.so, .string t.name, .slice al t.labels.length cl, .slice ak t.kids.length ck, .int .i64 1, .int .i64 0, .string ⟨#[]⟩, .slice none 0 0, .slice none 0 0] 25))
              refine hK.out _ _ hSn ?_
              clear hS hK K hSn
              intro hS
              generalize V1.heap.size = rx at *
              generalize World.alloc V1 (.cells #[.int .i64 t.kind, .int .i64 t.so, .string t.name, .slice al t.labels.length cl, .slice ak t.kids.length ck, .int .i64 1, .int .i64 0, .string ⟨#[]⟩, .slice none 0 0, .slice none 0 0] 25) = V2 at *
              refine wpAnyH_take (i := 3) (v := (.agg #[.int .i64 4, .int .i64 0, .string ⟨#[]⟩, .slice none 0 0, .slice (some ⟨rx, 0, none⟩) 2 2])) rfl (by kernel_rfl) (by kernel_rfl) (by kernel_rfl) (fun _ _ _ h => h) (Or.inl ⟨by rfl, fun W hW => by go_simp⟩) hS ?_
              refine wpAnyH_ready (rs := [8, 9]) (by kernel_rfl) (by simp) (AllReadyH.cons rfl (fun K hK => ?_) (AllReadyH.cons rfl (fun K hK => ?_) AllReadyH.nil))
              · go_simp
                have hSn := hS.al (.cells #[.int .i64 0, .int .i64 0, .string ⟨#[]⟩, .slice none 0 0, .slice none 0 0] 25)
                have HZx := hideK (BXZ.new (be := be) hS.lt)
                replace HVy := hideK (HVy.out.box (.cells #[.int .i64 0, .int .i64 0, .string ⟨#[]⟩, .slice none 0 0, .slice none 0 0] 25))
                replace HVx := hideK (HVx.out.box (.cells #[.int .i64 0, .int .i64 0, .string ⟨#[]⟩, .slice none 0 0, .slice none 0 0] 25))
                refine hK.out _ _ hSn ?_
                clear hS hK K hSn
                intro hS
                generalize V2.heap.size = ox at *
                generalize World.alloc V2 (.cells #[.int .i64 0, .int .i64 0, .string ⟨#[]⟩, .slice none 0 0, .slice none 0 0] 25) = V3 at *
                refine take_oneHL 9 (AllReadyH.cons rfl (fun K hK => ?_) AllReadyH.nil) (by kernel_rfl)
                go_simp
                have hSn := hS.al (.cells #[.int .i64 0, .int .i64 0, .string ⟨#[]⟩, .slice none 0 0, .slice none 0 0] 25)
                have HZy := hideK (BXZ.new (be := be) hS.lt)
                have HNE := hideK (show ox ≠ V3.heap.size from by have := HZx.out.lt; omega)
                replace HZx := hideK (HZx.out.al (.cells #[.int .i64 0, .int .i64 0, .string ⟨#[]⟩, .slice none 0 0, .slice none 0 0] 25))
                replace HVy := hideK (HVy.out.box (.cells #[.int .i64 0, .int .i64 0, .string ⟨#[]⟩, .slice none 0 0, .slice none 0 0] 25))
                replace HVx := hideK (HVx.out.box (.cells #[.int .i64 0, .int .i64 0, .string ⟨#[]⟩, .slice none 0 0, .slice none 0 0] 25))
                refine hK.out _ _ hSn ?_
                clear hS hK K hSn
                intro hS
                generalize V3.heap.size = oy at *
                generalize World.alloc V3 (.cells #[.int .i64 0, .int .i64 0, .string ⟨#[]⟩, .slice none 0 0, .slice none 0 0] 25) = V4 at *
                refine take_oneHL 10 (AllReadyH.cons rfl (fun K hK => ?_) AllReadyH.nil) (by kernel_rfl)
                obtain ⟨_, _, z0, z1, z2, z3, z4, zf⟩ := HZx.out
                have f0 := zf 0
                have f1 := zf 1
                have f2 := zf 2
                have f3 := zf 3
                have f4 := zf 4
                clear zf
                have hSn := hS.st (b := ox) HZx.out.lo (.int .i64 4) (.int .i64 0) (.string ⟨#[]⟩) (.slice none 0 0) (.slice (some ⟨rx, 0, none⟩) 2 2)
                have HOX := hideK HZx.out.lo
                have HTX := hideK (HVx.out.st (b := ox) (by simp) (.int .i64 4) (.int .i64 0) (.string ⟨#[]⟩) (.slice none 0 0) (.slice (some ⟨rx, 0, none⟩) 2 2))
                have HTA := hideK (show TyAt (st5 V4 ox 0 (.int .i64 4) (.int .i64 0) (.string ⟨#[]⟩) (.slice none 0 0) (.slice (some ⟨rx, 0, none⟩) 2 2)) ox 0 (gvT t) none 0 (some ⟨rx, 0, none⟩) 2 from HZx.out.ty (gvT t) none 0 (some ⟨rx, 0, none⟩) 2)
                have HLX := hideK (show ox < (st5 V4 ox 0 (.int .i64 4) (.int .i64 0) (.string ⟨#[]⟩) (.slice none 0 0) (.slice (some ⟨rx, 0, none⟩) 2 2)).heap.size from by rw [st5_size]; exact HZx.out.lt)
                replace HZy := hideK (HZy.out.st (b' := ox) HNE.out.symm (.int .i64 4) (.int .i64 0) (.string ⟨#[]⟩) (.slice none 0 0) (.slice (some ⟨rx, 0, none⟩) 2 2))
                replace HVy := hideK (HVy.out.st (b := ox) (by simp) (.int .i64 4) (.int .i64 0) (.string ⟨#[]⟩) (.slice none 0 0) (.slice (some ⟨rx, 0, none⟩) 2 2))
                clear HVx HZx
                go_simp
                refine hK.out _ _ hSn ?_
                clear hS hK K hSn z0 z1 z2 z3 z4 f0 f1 f2 f3 f4
                intro hS
                change wpAnyH _ _ _ _ _ _ _ _ (st5 V4 ox 0 (.int .i64 4) (.int .i64 0) (.string ⟨#[]⟩) (.slice none 0 0) (.slice (some ⟨rx, 0, none⟩) 2 2))
                change CGW _ _ _ _ _ _ _ _ _ _ _ _ (st5 V4 ox 0 (.int .i64 4) (.int .i64 0) (.string ⟨#[]⟩) (.slice none 0 0) (.slice (some ⟨rx, 0, none⟩) 2 2)) at hS
                generalize st5 V4 ox 0 (.int .i64 4) (.int .i64 0) (.string ⟨#[]⟩) (.slice none 0 0) (.slice (some ⟨rx, 0, none⟩) 2 2) = V5 at *
                refine take_oneHL 11 (AllReadyH.cons rfl (fun K hK => ?_) AllReadyH.nil) (by kernel_rfl)
                obtain ⟨_, _, z0, z1, z2, z3, z4, zf⟩ := HZy.out
                have f0 := zf 0
                have f1 := zf 1
                have f2 := zf 2
                have f3 := zf 3
                have f4 := zf 4
                clear zf
                have hSn := hS.st (b := oy) HZy.out.lo (.int .i64 4) (.int .i64 0) (.string ⟨#[]⟩) (.slice none 0 0) (.slice (some ⟨ry, 0, none⟩) 2 2)
                have HTY := hideK ((HVy.out.st (b := oy) (by simp) (.int .i64 4) (.int .i64 0) (.string ⟨#[]⟩) (.slice none 0 0) (.slice (some ⟨ry, 0, none⟩) 2 2)).tyb (show TyAt (st5 V5 oy 0 (.int .i64 4) (.int .i64 0) (.string ⟨#[]⟩) (.slice none 0 0) (.slice (some ⟨ry, 0, none⟩) 2 2)) oy 0 (gvT s) none 0 (some ⟨ry, 0, none⟩) 2 from HZy.out.ty (gvT s) none 0 (some ⟨ry, 0, none⟩) 2) (by rw [st5_size]; exact HZy.out.lt))
                have HTX2 := hideK ((HTX.out.st (b := oy) (by simp) (.int .i64 4) (.int .i64 0) (.string ⟨#[]⟩) (.slice none 0 0) (.slice (some ⟨ry, 0, none⟩) 2 2)).tyb (tyAt_st (b := oy) HNE.out (.int .i64 4) (.int .i64 0) (.string ⟨#[]⟩) (.slice none 0 0) (.slice (some ⟨ry, 0, none⟩) 2 2) HTA.out) (by rw [st5_size]; exact HLX.out))
                clear HVy HZy HTX HTA HLX HOX
                go_simp
                refine hK.out _ _ hSn ?_
                clear hS hK K hSn z0 z1 z2 z3 z4 f0 f1 f2 f3 f4
                intro hS
                change wpAnyH _ _ _ _ _ _ _ _ (st5 V5 oy 0 (.int .i64 4) (.int .i64 0) (.string ⟨#[]⟩) (.slice none 0 0) (.slice (some ⟨ry, 0, none⟩) 2 2))
                change CGW _ _ _ _ _ _ _ _ _ _ _ _ (st5 V5 oy 0 (.int .i64 4) (.int .i64 0) (.string ⟨#[]⟩) (.slice none 0 0) (.slice (some ⟨ry, 0, none⟩) 2 2)) at hS
                generalize st5 V5 oy 0 (.int .i64 4) (.int .i64 0) (.string ⟨#[]⟩) (.slice none 0 0) (.slice (some ⟨ry, 0, none⟩) 2 2) = V6 at *
                refine wpAnyH_done (by kernel_rfl) ?_ _
                go_wp2_with fail
                go_meet
                exact ⟨_, _, _, _, _, _, _, _, _, _, _, _, rfl, rfl, hS, HTX2.out, HTY.out⟩
              · go_simp
                have hSn := hS.al (.cells #[.int .i64 0, .int .i64 0, .string ⟨#[]⟩, .slice none 0 0, .slice none 0 0] 25)
                have HZy := hideK (BXZ.new (be := be) hS.lt)
                replace HVy := hideK (HVy.out.box (.cells #[.int .i64 0, .int .i64 0, .string ⟨#[]⟩, .slice none 0 0, .slice none 0 0] 25))
                replace HVx := hideK (HVx.out.box (.cells #[.int .i64 0, .int .i64 0, .string ⟨#[]⟩, .slice none 0 0, .slice none 0 0] 25))
                refine hK.out _ _ hSn ?_
                clear hS hK K hSn
                intro hS
                generalize V2.heap.size = oy at *
                generalize World.alloc V2 (.cells #[.int .i64 0, .int .i64 0, .string ⟨#[]⟩, .slice none 0 0, .slice none 0 0] 25) = V3 at *
                refine take_oneHL 8 (AllReadyH.cons rfl (fun K hK => ?_) AllReadyH.nil) (by kernel_rfl)
                go_simp
                have hSn := hS.al (.cells #[.int .i64 0, .int .i64 0, .string ⟨#[]⟩, .slice none 0 0, .slice none 0 0] 25)
                have HZx := hideK (BXZ.new (be := be) hS.lt)
                have HNE := hideK (show oy ≠ V3.heap.size from by have := HZy.out.lt; omega)
                replace HZy := hideK (HZy.out.al (.cells #[.int .i64 0, .int .i64 0, .string ⟨#[]⟩, .slice none 0 0, .slice none 0 0] 25))
                replace HVy := hideK (HVy.out.box (.cells #[.int .i64 0, .int .i64 0, .string ⟨#[]⟩, .slice none 0 0, .slice none 0 0] 25))
                replace HVx := hideK (HVx.out.box (.cells #[.int .i64 0, .int .i64 0, .string ⟨#[]⟩, .slice none 0 0, .slice none 0 0] 25))
                refine hK.out _ _ hSn ?_
                clear hS hK K hSn
                intro hS
                generalize V3.heap.size = ox at *
                generalize World.alloc V3 (.cells #[.int .i64 0, .int .i64 0, .string ⟨#[]⟩, .slice none 0 0, .slice none 0 0] 25) = V4 at *
                refine take_oneHL 10 (AllReadyH.cons rfl (fun K hK => ?_) AllReadyH.nil) (by kernel_rfl)
                obtain ⟨_, _, z0, z1, z2, z3, z4, zf⟩ := HZx.out
                have f0 := zf 0
                have f1 := zf 1
                have f2 := zf 2
                have f3 := zf 3
                have f4 := zf 4
                clear zf
                have hSn := hS.st (b := ox) HZx.out.lo (.int .i64 4) (.int .i64 0) (.string ⟨#[]⟩) (.slice none 0 0) (.slice (some ⟨rx, 0, none⟩) 2 2)
                have HOX := hideK HZx.out.lo
                have HTX := hideK (HVx.out.st (b := ox) (by simp) (.int .i64 4) (.int .i64 0) (.string ⟨#[]⟩) (.slice none 0 0) (.slice (some ⟨rx, 0, none⟩) 2 2))
                have HTA := hideK (show TyAt (st5 V4 ox 0 (.int .i64 4) (.int .i64 0) (.string ⟨#[]⟩) (.slice none 0 0) (.slice (some ⟨rx, 0, none⟩) 2 2)) ox 0 (gvT t) none 0 (some ⟨rx, 0, none⟩) 2 from HZx.out.ty (gvT t) none 0 (some ⟨rx, 0, none⟩) 2)
                have HLX := hideK (show ox < (st5 V4 ox 0 (.int .i64 4) (.int .i64 0) (.string ⟨#[]⟩) (.slice none 0 0) (.slice (some ⟨rx, 0, none⟩) 2 2)).heap.size from by rw [st5_size]; exact HZx.out.lt)
                replace HZy := hideK (HZy.out.st (b' := ox) HNE.out (.int .i64 4) (.int .i64 0) (.string ⟨#[]⟩) (.slice none 0 0) (.slice (some ⟨rx, 0, none⟩) 2 2))
                replace HVy := hideK (HVy.out.st (b := ox) (by simp) (.int .i64 4) (.int .i64 0) (.string ⟨#[]⟩) (.slice none 0 0) (.slice (some ⟨rx, 0, none⟩) 2 2))
                clear HVx HZx
                go_simp
                refine hK.out _ _ hSn ?_
                clear hS hK K hSn z0 z1 z2 z3 z4 f0 f1 f2 f3 f4
                intro hS
                change wpAnyH _ _ _ _ _ _ _ _ (st5 V4 ox 0 (.int .i64 4) (.int .i64 0) (.string ⟨#[]⟩) (.slice none 0 0) (.slice (some ⟨rx, 0, none⟩) 2 2))
                change CGW _ _ _ _ _ _ _ _ _ _ _ _ (st5 V4 ox 0 (.int .i64 4) (.int .i64 0) (.string ⟨#[]⟩) (.slice none 0 0) (.slice (some ⟨rx, 0, none⟩) 2 2)) at hS
                generalize st5 V4 ox 0 (.int .i64 4) (.int .i64 0) (.string ⟨#[]⟩) (.slice none 0 0) (.slice (some ⟨rx, 0, none⟩) 2 2) = V5 at *
                refine take_oneHL 11 (AllReadyH.cons rfl (fun K hK => ?_) AllReadyH.nil) (by kernel_rfl)
                obtain ⟨_, _, z0, z1, z2, z3, z4, zf⟩ := HZy.out
                have f0 := zf 0
                have f1 := zf 1
                have f2 := zf 2
                have f3 := zf 3
                have f4 := zf 4
                clear zf
                have hSn := hS.st (b := oy) HZy.out.lo (.int .i64 4) (.int .i64 0) (.string ⟨#[]⟩) (.slice none 0 0) (.slice (some ⟨ry, 0, none⟩) 2 2)
                have HTY := hideK ((HVy.out.st (b := oy) (by simp) (.int .i64 4) (.int .i64 0) (.string ⟨#[]⟩) (.slice none 0 0) (.slice (some ⟨ry, 0, none⟩) 2 2)).tyb (show TyAt (st5 V5 oy 0 (.int .i64 4) (.int .i64 0) (.string ⟨#[]⟩) (.slice none 0 0) (.slice (some ⟨ry, 0, none⟩) 2 2)) oy 0 (gvT s) none 0 (some ⟨ry, 0, none⟩) 2 from HZy.out.ty (gvT s) none 0 (some ⟨ry, 0, none⟩) 2) (by rw [st5_size]; exact HZy.out.lt))
                have HTX2 := hideK ((HTX.out.st (b := oy) (by simp) (.int .i64 4) (.int .i64 0) (.string ⟨#[]⟩) (.slice none 0 0) (.slice (some ⟨ry, 0, none⟩) 2 2)).tyb (tyAt_st (b := oy) HNE.out.symm (.int .i64 4) (.int .i64 0) (.string ⟨#[]⟩) (.slice none 0 0) (.slice (some ⟨ry, 0, none⟩) 2 2) HTA.out) (by rw [st5_size]; exact HLX.out))
                clear HVy HZy HTX HTA HLX HOX
                go_simp
                refine hK.out _ _ hSn ?_
                clear hS hK K hSn z0 z1 z2 z3 z4 f0 f1 f2 f3 f4
                intro hS
                change wpAnyH _ _ _ _ _ _ _ _ (st5 V5 oy 0 (.int .i64 4) (.int .i64 0) (.string ⟨#[]⟩) (.slice none 0 0) (.slice (some ⟨ry, 0, none⟩) 2 2))
                change CGW _ _ _ _ _ _ _ _ _ _ _ _ (st5 V5 oy 0 (.int .i64 4) (.int .i64 0) (.string ⟨#[]⟩) (.slice none 0 0) (.slice (some ⟨ry, 0, none⟩) 2 2)) at hS
                generalize st5 V5 oy 0 (.int .i64 4) (.int .i64 0) (.string ⟨#[]⟩) (.slice none 0 0) (.slice (some ⟨ry, 0, none⟩) 2 2) = V6 at *
                refine wpAnyH_done (by kernel_rfl) ?_ _
                go_wp2_with fail
                go_meet
                exact ⟨_, _, _, _, _, _, _, _, _, _, _, _, rfl, rfl, hS, HTX2.out, HTY.out⟩
            · go_simp
              have hSn := hS.al (.cells #[.int .i64 0, .int .i64 0, .string ⟨#[]⟩, .slice none 0 0, .slice none 0 0] 25)
              have HZx := hideK (BXZ.new (be := be) hS.lt)
              replace HVy := hideK (HVy.out.box (.cells #[.int .i64 0, .int .i64 0, .string ⟨#[]⟩, .slice none 0 0, .slice none 0 0] 25))
              refine hK.out _ _ hSn ?_
              clear hS hK K hSn
              intro hS
              generalize V1.heap.size = ox at *
              generalize World.alloc V1 (.cells #[.int .i64 0, .int .i64 0, .string ⟨#[]⟩, .slice none 0 0, .slice none 0 0] 25) = V2 at *
              refine wpAnyH_ready (rs := [2, 9]) (by kernel_rfl) (by simp) (AllReadyH.cons rfl (fun K hK => ?_) (AllReadyH.cons rfl (fun K hK => ?_) AllReadyH.nil))
              · go_simp
                have hSn := hS.al (.cells #[.int .i64 t.kind, .int .i64 t.so, .string t.name, .slice al t.labels.length cl, .slice ak t.kids.length ck, .int .i64 1, .int .i64 0, .string ⟨#[]⟩, .slice none 0 0, .slice none 0 0] 25)
                have HVx := hideK (tv_row hS.bl HT.out [ox] (bs1 hS HZx.out))
                replace HZx := hideK (HZx.out.al (.cells #[.int .i64 t.kind, .int .i64 t.so, .string t.name, .slice al t.labels.length cl, .slice ak t.kids.length ck, .int .i64 1, .int .i64 0, .string ⟨#[]⟩, .slice none 0 0, .slice none 0 0] 25))
                replace HVy := hideK (HVy.out.al (.cells #[.int .i64 t.kind, .int .i64 t.so, .string t.name, .slice al t.labels.length cl, .slice ak t.kids.length ck, .int .i64 1, .int .i64 0, .string ⟨#[]⟩, .slice none 0 0, .slice none 0 0] 25))
                refine hK.out _ _ hSn ?_
                clear hS hK K hSn
                intro hS
                generalize V2.heap.size = rx at *
                generalize World.alloc V2 (.cells #[.int .i64 t.kind, .int .i64 t.so, .string t.name, .slice al t.labels.length cl, .slice ak t.kids.length ck, .int .i64 1, .int .i64 0, .string ⟨#[]⟩, .slice none 0 0, .slice none 0 0] 25) = V3 at *
                refine wpAnyH_take (i := 3) (v := (.agg #[.int .i64 4, .int .i64 0, .string ⟨#[]⟩, .slice none 0 0, .slice (some ⟨rx, 0, none⟩) 2 2])) rfl (by kernel_rfl) (by kernel_rfl) (by kernel_rfl) (fun _ _ _ h => h) (Or.inl ⟨by rfl, fun W hW => by go_simp⟩) hS ?_
                refine take_oneHL 9 (AllReadyH.cons rfl (fun K hK => ?_) AllReadyH.nil) (by kernel_rfl)
                go_simp
                have hSn := hS.al (.cells #[.int .i64 0, .int .i64 0, .string ⟨#[]⟩, .slice none 0 0, .slice none 0 0] 25)
                have HZy := hideK (BXZ.new (be := be) hS.lt)
                have HNE := hideK (show ox ≠ V3.heap.size from by have := HZx.out.lt; omega)
                replace HZx := hideK (HZx.out.al (.cells #[.int .i64 0, .int .i64 0, .string ⟨#[]⟩, .slice none 0 0, .slice none 0 0] 25))
                replace HVy := hideK (HVy.out.box (.cells #[.int .i64 0, .int .i64 0, .string ⟨#[]⟩, .slice none 0 0, .slice none 0 0] 25))
                replace HVx := hideK (HVx.out.box (.cells #[.int .i64 0, .int .i64 0, .string ⟨#[]⟩, .slice none 0 0, .slice none 0 0] 25))
                refine hK.out _ _ hSn ?_
                clear hS hK K hSn
                intro hS
                generalize V3.heap.size = oy at *
                generalize World.alloc V3 (.cells #[.int .i64 0, .int .i64 0, .string ⟨#[]⟩, .slice none 0 0, .slice none 0 0] 25) = V4 at *
                refine take_oneHL 10 (AllReadyH.cons rfl (fun K hK => ?_) AllReadyH.nil) (by kernel_rfl)
                obtain ⟨_, _, z0, z1, z2, z3, z4, zf⟩ := HZx.out
                have f0 := zf 0
                have f1 := zf 1
                have f2 := zf 2
                have f3 := zf 3
                have f4 := zf 4
                clear zf
                have hSn := hS.st (b := ox) HZx.out.lo (.int .i64 4) (.int .i64 0) (.string ⟨#[]⟩) (.slice none 0 0) (.slice (some ⟨rx, 0, none⟩) 2 2)
                have HOX := hideK HZx.out.lo
                have HTX := hideK (HVx.out.st (b := ox) (by simp) (.int .i64 4) (.int .i64 0) (.string ⟨#[]⟩) (.slice none 0 0) (.slice (some ⟨rx, 0, none⟩) 2 2))
                have HTA := hideK (show TyAt (st5 V4 ox 0 (.int .i64 4) (.int .i64 0) (.string ⟨#[]⟩) (.slice none 0 0) (.slice (some ⟨rx, 0, none⟩) 2 2)) ox 0 (gvT t) none 0 (some ⟨rx, 0, none⟩) 2 from HZx.out.ty (gvT t) none 0 (some ⟨rx, 0, none⟩) 2)
                have HLX := hideK (show ox < (st5 V4 ox 0 (.int .i64 4) (.int .i64 0) (.string ⟨#[]⟩) (.slice none 0 0) (.slice (some ⟨rx, 0, none⟩) 2 2)).heap.size from by rw [st5_size]; exact HZx.out.lt)
                replace HZy := hideK (HZy.out.st (b' := ox) HNE.out.symm (.int .i64 4) (.int .i64 0) (.string ⟨#[]⟩) (.slice none 0 0) (.slice (some ⟨rx, 0, none⟩) 2 2))
                replace HVy := hideK (HVy.out.st (b := ox) (by simp) (.int .i64 4) (.int .i64 0) (.string ⟨#[]⟩) (.slice none 0 0) (.slice (some ⟨rx, 0, none⟩) 2 2))
                clear HVx HZx
                go_simp
                refine hK.out _ _ hSn ?_
                clear hS hK K hSn z0 z1 z2 z3 z4 f0 f1 f2 f3 f4
                intro hS
                change wpAnyH _ _ _ _ _ _ _ _ (st5 V4 ox 0 (.int .i64 4) (.int .i64 0) (.string ⟨#[]⟩) (.slice none 0 0) (.slice (some ⟨rx, 0, none⟩) 2 2))
                change CGW _ _ _ _ _ _ _ _ _ _ _ _ (st5 V4 ox 0 (.int .i64 4) (.int .i64 0) (.string ⟨#[]⟩) (.slice none 0 0) (.slice (some ⟨rx, 0, none⟩) 2 2)) at hS
                generalize st5 V4 ox 0 (.int .i64 4) (.int .i64 0) (.string ⟨#[]⟩) (.slice none 0 0) (.slice (some ⟨rx, 0, none⟩) 2 2) = V5 at *
                refine take_oneHL 11 (AllReadyH.cons rfl (fun K hK => ?_) AllReadyH.nil) (by kernel_rfl)
                obtain ⟨_, _, z0, z1, z2, z3, z4, zf⟩ := HZy.out
                have f0 := zf 0
                have f1 := zf 1
                have f2 := zf 2
                have f3 := zf 3
                have f4 := zf 4
                clear zf
                have hSn := hS.st (b := oy) HZy.out.lo (.int .i64 4) (.int .i64 0) (.string ⟨#[]⟩) (.slice none 0 0) (.slice (some ⟨ry, 0, none⟩) 2 2)
                have HTY := hideK ((HVy.out.st (b := oy) (by simp) (.int .i64 4) (.int .i64 0) (.string ⟨#[]⟩) (.slice none 0 0) (.slice (some ⟨ry, 0, none⟩) 2 2)).tyb (show TyAt (st5 V5 oy 0 (.int .i64 4) (.int .i64 0) (.string ⟨#[]⟩) (.slice none 0 0) (.slice (some ⟨ry, 0, none⟩) 2 2)) oy 0 (gvT s) none 0 (some ⟨ry, 0, none⟩) 2 from HZy.out.ty (gvT s) none 0 (some ⟨ry, 0, none⟩) 2) (by rw [st5_size]; exact HZy.out.lt))
                have HTX2 := hideK ((HTX.out.st (b := oy) (by simp) (.int .i64 4) (.int .i64 0) (.string ⟨#[]⟩) (.slice none 0 0) (.slice (some ⟨ry, 0, none⟩) 2 2)).tyb (tyAt_st (b := oy) HNE.out (.int .i64 4) (.int .i64 0) (.string ⟨#[]⟩) (.slice none 0 0) (.slice (some ⟨ry, 0, none⟩) 2 2) HTA.out) (by rw [st5_size]; exact HLX.out))
                clear HVy HZy HTX HTA HLX HOX
                go_simp
                refine hK.out _ _ hSn ?_
                clear hS hK K hSn z0 z1 z2 z3 z4 f0 f1 f2 f3 f4
                intro hS
                change wpAnyH _ _ _ _ _ _ _ _ (st5 V5 oy 0 (.int .i64 4) (.int .i64 0) (.string ⟨#[]⟩) (.slice none 0 0) (.slice (some ⟨ry, 0, none⟩) 2 2))
                change CGW _ _ _ _ _ _ _ _ _ _ _ _ (st5 V5 oy 0 (.int .i64 4) (.int .i64 0) (.string ⟨#[]⟩) (.slice none 0 0) (.slice (some ⟨ry, 0, none⟩) 2 2)) at hS
                generalize st5 V5 oy 0 (.int .i64 4) (.int .i64 0) (.string ⟨#[]⟩) (.slice none 0 0) (.slice (some ⟨ry, 0, none⟩) 2 2) = V6 at *
                refine wpAnyH_done (by kernel_rfl) ?_ _
                go_wp2_with fail
                go_meet
                exact ⟨_, _, _, _, _, _, _, _, _, _, _, _, rfl, rfl, hS, HTX2.out, HTY.out⟩
              · go_simp
                have hSn := hS.al (.cells #[.int .i64 0, .int .i64 0, .string ⟨#[]⟩, .slice none 0 0, .slice none 0 0] 25)
                have HZy := hideK (BXZ.new (be := be) hS.lt)
                have HNE := hideK (show ox ≠ V2.heap.size from by have := HZx.out.lt; omega)
                replace HZx := hideK (HZx.out.al (.cells #[.int .i64 0, .int .i64 0, .string ⟨#[]⟩, .slice none 0 0, .slice none 0 0] 25))
                replace HVy := hideK (HVy.out.box (.cells #[.int .i64 0, .int .i64 0, .string ⟨#[]⟩, .slice none 0 0, .slice none 0 0] 25))
                refine hK.out _ _ hSn ?_
                clear hS hK K hSn
                intro hS
                generalize V2.heap.size = oy at *
                generalize World.alloc V2 (.cells #[.int .i64 0, .int .i64 0, .string ⟨#[]⟩, .slice none 0 0, .slice none 0 0] 25) = V3 at *
                refine take_oneHL 2 (AllReadyH.cons rfl (fun K hK => ?_) AllReadyH.nil) (by kernel_rfl)
                go_simp
                have hSn := hS.al (.cells #[.int .i64 t.kind, .int .i64 t.so, .string t.name, .slice al t.labels.length cl, .slice ak t.kids.length ck, .int .i64 1, .int .i64 0, .string ⟨#[]⟩, .slice none 0 0, .slice none 0 0] 25)
                have HVx := hideK (tv_row hS.bl HT.out [oy, ox] (bs2 hS HZy.out HZx.out))
                replace HZx := hideK (HZx.out.al (.cells #[.int .i64 t.kind, .int .i64 t.so, .string t.name, .slice al t.labels.length cl, .slice ak t.kids.length ck, .int .i64 1, .int .i64 0, .string ⟨#[]⟩, .slice none 0 0, .slice none 0 0] 25))
                replace HZy := hideK (HZy.out.al (.cells #[.int .i64 t.kind, .int .i64 t.so, .string t.name, .slice al t.labels.length cl, .slice ak t.kids.length ck, .int .i64 1, .int .i64 0, .string ⟨#[]⟩, .slice none 0 0, .slice none 0 0] 25))
                replace HVy := hideK (HVy.out.al (.cells #[.int .i64 t.kind, .int .i64 t.so, .string t.name, .slice al t.labels.length cl, .slice ak t.kids.length ck, .int .i64 1, .int .i64 0, .string ⟨#[]⟩, .slice none 0 0, .slice none 0 0] 25))
                refine hK.out _ _ hSn ?_
                clear hS hK K hSn
                intro hS
                generalize V3.heap.size = rx at *
                generalize World.alloc V3 (.cells #[.int .i64 t.kind, .int .i64 t.so, .string t.name, .slice al t.labels.length cl, .slice ak t.kids.length ck, .int .i64 1, .int .i64 0, .string ⟨#[]⟩, .slice none 0 0, .slice none 0 0] 25) = V4 at *
                refine wpAnyH_take (i := 3) (v := (.agg #[.int .i64 4, .int .i64 0, .string ⟨#[]⟩, .slice none 0 0, .slice (some ⟨rx, 0, none⟩) 2 2])) rfl (by kernel_rfl) (by kernel_rfl) (by kernel_rfl) (fun _ _ _ h => h) (Or.inl ⟨by rfl, fun W hW => by go_simp⟩) hS ?_
                refine take_oneHL 10 (AllReadyH.cons rfl (fun K hK => ?_) AllReadyH.nil) (by kernel_rfl)
                obtain ⟨_, _, z0, z1, z2, z3, z4, zf⟩ := HZx.out
                have f0 := zf 0
                have f1 := zf 1
                have f2 := zf 2
                have f3 := zf 3
                have f4 := zf 4
                clear zf
                have hSn := hS.st (b := ox) HZx.out.lo (.int .i64 4) (.int .i64 0) (.string ⟨#[]⟩) (.slice none 0 0) (.slice (some ⟨rx, 0, none⟩) 2 2)
                have HOX := hideK HZx.out.lo
                have HTX := hideK (HVx.out.st (b := ox) (by simp) (.int .i64 4) (.int .i64 0) (.string ⟨#[]⟩) (.slice none 0 0) (.slice (some ⟨rx, 0, none⟩) 2 2))
                have HTA := hideK (show TyAt (st5 V4 ox 0 (.int .i64 4) (.int .i64 0) (.string ⟨#[]⟩) (.slice none 0 0) (.slice (some ⟨rx, 0, none⟩) 2 2)) ox 0 (gvT t) none 0 (some ⟨rx, 0, none⟩) 2 from HZx.out.ty (gvT t) none 0 (some ⟨rx, 0, none⟩) 2)
                have HLX := hideK (show ox < (st5 V4 ox 0 (.int .i64 4) (.int .i64 0) (.string ⟨#[]⟩) (.slice none 0 0) (.slice (some ⟨rx, 0, none⟩) 2 2)).heap.size from by rw [st5_size]; exact HZx.out.lt)
                replace HZy := hideK (HZy.out.st (b' := ox) HNE.out.symm (.int .i64 4) (.int .i64 0) (.string ⟨#[]⟩) (.slice none 0 0) (.slice (some ⟨rx, 0, none⟩) 2 2))
                replace HVy := hideK (HVy.out.st (b := ox) (by simp) (.int .i64 4) (.int .i64 0) (.string ⟨#[]⟩) (.slice none 0 0) (.slice (some ⟨rx, 0, none⟩) 2 2))
                clear HVx HZx
                go_simp
                refine hK.out _ _ hSn ?_
                clear hS hK K hSn z0 z1 z2 z3 z4 f0 f1 f2 f3 f4
                intro hS
                change wpAnyH _ _ _ _ _ _ _ _ (st5 V4 ox 0 (.int .i64 4) (.int .i64 0) (.string ⟨#[]⟩) (.slice none 0 0) (.slice (some ⟨rx, 0, none⟩) 2 2))
                change CGW _ _ _ _ _ _ _ _ _ _ _ _ (st5 V4 ox 0 (.int .i64 4) (.int .i64 0) (.string ⟨#[]⟩) (.slice none 0 0) (.slice (some ⟨rx, 0, none⟩) 2 2)) at hS
                generalize st5 V4 ox 0 (.int .i64 4) (.int .i64 0) (.string ⟨#[]⟩) (.slice none 0 0) (.slice (some ⟨rx, 0, none⟩) 2 2) = V5 at *
                refine take_oneHL 11 (AllReadyH.cons rfl (fun K hK => ?_) AllReadyH.nil) (by kernel_rfl)
                obtain ⟨_, _, z0, z1, z2, z3, z4, zf⟩ := HZy.out
                have f0 := zf 0
                have f1 := zf 1
                have f2 := zf 2
                have f3 := zf 3
                have f4 := zf 4
                clear zf
                have hSn := hS.st (b := oy) HZy.out.lo (.int .i64 4) (.int .i64 0) (.string ⟨#[]⟩) (.slice none 0 0) (.slice (some ⟨ry, 0, none⟩) 2 2)
                have HTY := hideK ((HVy.out.st (b := oy) (by simp) (.int .i64 4) (.int .i64 0) (.string ⟨#[]⟩) (.slice none 0 0) (.slice (some ⟨ry, 0, none⟩) 2 2)).tyb (show TyAt (st5 V5 oy 0 (.int .i64 4) (.int .i64 0) (.string ⟨#[]⟩) (.slice none 0 0) (.slice (some ⟨ry, 0, none⟩) 2 2)) oy 0 (gvT s) none 0 (some ⟨ry, 0, none⟩) 2 from HZy.out.ty (gvT s) none 0 (some ⟨ry, 0, none⟩) 2) (by rw [st5_size]; exact HZy.out.lt))
                have HTX2 := hideK ((HTX.out.st (b := oy) (by simp) (.int .i64 4) (.int .i64 0) (.string ⟨#[]⟩) (.slice none 0 0) (.slice (some ⟨ry, 0, none⟩) 2 2)).tyb (tyAt_st (b := oy) HNE.out (.int .i64 4) (.int .i64 0) (.string ⟨#[]⟩) (.slice none 0 0) (.slice (some ⟨ry, 0, none⟩) 2 2) HTA.out) (by rw [st5_size]; exact HLX.out))
                clear HVy HZy HTX HTA HLX HOX
                go_simp
                refine hK.out _ _ hSn ?_
                clear hS hK K hSn z0 z1 z2 z3 z4 f0 f1 f2 f3 f4
                intro hS
                change wpAnyH _ _ _ _ _ _ _ _ (st5 V5 oy 0 (.int .i64 4) (.int .i64 0) (.string ⟨#[]⟩) (.slice none 0 0) (.slice (some ⟨ry, 0, none⟩) 2 2))
                change CGW _ _ _ _ _ _ _ _ _ _ _ _ (st5 V5 oy 0 (.int .i64 4) (.int .i64 0) (.string ⟨#[]⟩) (.slice none 0 0) (.slice (some ⟨ry, 0, none⟩) 2 2)) at hS
                generalize st5 V5 oy 0 (.int .i64 4) (.int .i64 0) (.string ⟨#[]⟩) (.slice none 0 0) (.slice (some ⟨ry, 0, none⟩) 2 2) = V6 at *
                refine wpAnyH_done (by kernel_rfl) ?_ _
                go_wp2_with fail
                go_meet
                exact ⟨_, _, _, _, _, _, _, _, _, _, _, _, rfl, rfl, hS, HTX2.out, HTY.out⟩
            · go_simp
              have hSn := hS.al (.cells #[.int .i64 0, .int .i64 0, .string ⟨#[]⟩, .slice none 0 0, .slice none 0 0] 25)
              have HZy := hideK (BXZ.new (be := be) hS.lt)
              replace HVy := hideK (HVy.out.box (.cells #[.int .i64 0, .int .i64 0, .string ⟨#[]⟩, .slice none 0 0, .slice none 0 0] 25))
              refine hK.out _ _ hSn ?_
              clear hS hK K hSn
              intro hS
              generalize V1.heap.size = oy at *
              generalize World.alloc V1 (.cells #[.int .i64 0, .int .i64 0, .string ⟨#[]⟩, .slice none 0 0, .slice none 0 0] 25) = V2 at *
              refine wpAnyH_ready (rs := [2, 8]) (by kernel_rfl) (by simp) (AllReadyH.cons rfl (fun K hK => ?_) (AllReadyH.cons rfl (fun K hK => ?_) AllReadyH.nil))
              · go_simp
                have hSn := hS.al (.cells #[.int .i64 t.kind, .int .i64 t.so, .string t.name, .slice al t.labels.length cl, .slice ak t.kids.length ck, .int .i64 1, .int .i64 0, .string ⟨#[]⟩, .slice none 0 0, .slice none 0 0] 25)
                have HVx := hideK (tv_row hS.bl HT.out [oy] (bs1 hS HZy.out))
                replace HZy := hideK (HZy.out.al (.cells #[.int .i64 t.kind, .int .i64 t.so, .string t.name, .slice al t.labels.length cl, .slice ak t.kids.length ck, .int .i64 1, .int .i64 0, .string ⟨#[]⟩, .slice none 0 0, .slice none 0 0] 25))
                replace HVy := hideK (HVy.out.al (.cells #[.int .i64 t.kind, .int .i64 t.so, .string t.name, .slice al t.labels.length cl, .slice ak t.kids.length ck, .int .i64 1, .int .i64 0, .string ⟨#[]⟩, .slice none 0 0, .slice none 0 0] 25))
                refine hK.out _ _ hSn ?_
                clear hS hK K hSn
                intro hS
                generalize V2.heap.size = rx at *
                generalize World.alloc V2 (.cells #[.int .i64 t.kind, .int .i64 t.so, .string t.name, .slice al t.labels.length cl, .slice ak t.kids.length ck, .int .i64 1, .int .i64 0, .string ⟨#[]⟩, .slice none 0 0, .slice none 0 0] 25) = V3 at *
                refine wpAnyH_take (i := 3) (v := (.agg #[.int .i64 4, .int .i64 0, .string ⟨#[]⟩, .slice none 0 0, .slice (some ⟨rx, 0, none⟩) 2 2])) rfl (by kernel_rfl) (by kernel_rfl) (by kernel_rfl) (fun _ _ _ h => h) (Or.inl ⟨by rfl, fun W hW => by go_simp⟩) hS ?_
                refine take_oneHL 8 (AllReadyH.cons rfl (fun K hK => ?_) AllReadyH.nil) (by kernel_rfl)
                go_simp
                have hSn := hS.al (.cells #[.int .i64 0, .int .i64 0, .string ⟨#[]⟩, .slice none 0 0, .slice none 0 0] 25)
                have HZx := hideK (BXZ.new (be := be) hS.lt)
                have HNE := hideK (show oy ≠ V3.heap.size from by have := HZy.out.lt; omega)
                replace HZy := hideK (HZy.out.al (.cells #[.int .i64 0, .int .i64 0, .string ⟨#[]⟩, .slice none 0 0, .slice none 0 0] 25))
                replace HVy := hideK (HVy.out.box (.cells #[.int .i64 0, .int .i64 0, .string ⟨#[]⟩, .slice none 0 0, .slice none 0 0] 25))
                replace HVx := hideK (HVx.out.box (.cells #[.int .i64 0, .int .i64 0, .string ⟨#[]⟩, .slice none 0 0, .slice none 0 0] 25))
                refine hK.out _ _ hSn ?_
                clear hS hK K hSn
                intro hS
                generalize V3.heap.size = ox at *
                generalize World.alloc V3 (.cells #[.int .i64 0, .int .i64 0, .string ⟨#[]⟩, .slice none 0 0, .slice none 0 0] 25) = V4 at *
                refine take_oneHL 10 (AllReadyH.cons rfl (fun K hK => ?_) AllReadyH.nil) (by kernel_rfl)
                obtain ⟨_, _, z0, z1, z2, z3, z4, zf⟩ := HZx.out
                have f0 := zf 0
                have f1 := zf 1
                have f2 := zf 2
                have f3 := zf 3
                have f4 := zf 4
                clear zf
                have hSn := hS.st (b := ox) HZx.out.lo (.int .i64 4) (.int .i64 0) (.string ⟨#[]⟩) (.slice none 0 0) (.slice (some ⟨rx, 0, none⟩) 2 2)
                have HOX := hideK HZx.out.lo
                have HTX := hideK (HVx.out.st (b := ox) (by simp) (.int .i64 4) (.int .i64 0) (.string ⟨#[]⟩) (.slice none 0 0) (.slice (some ⟨rx, 0, none⟩) 2 2))
                have HTA := hideK (show TyAt (st5 V4 ox 0 (.int .i64 4) (.int .i64 0) (.string ⟨#[]⟩) (.slice none 0 0) (.slice (some ⟨rx, 0, none⟩) 2 2)) ox 0 (gvT t) none 0 (some ⟨rx, 0, none⟩) 2 from HZx.out.ty (gvT t) none 0 (some ⟨rx, 0, none⟩) 2)
                have HLX := hideK (show ox < (st5 V4 ox 0 (.int .i64 4) (.int .i64 0) (.string ⟨#[]⟩) (.slice none 0 0) (.slice (some ⟨rx, 0, none⟩) 2 2)).heap.size from by rw [st5_size]; exact HZx.out.lt)
                replace HZy := hideK (HZy.out.st (b' := ox) HNE.out (.int .i64 4) (.int .i64 0) (.string ⟨#[]⟩) (.slice none 0 0) (.slice (some ⟨rx, 0, none⟩) 2 2))
                replace HVy := hideK (HVy.out.st (b := ox) (by simp) (.int .i64 4) (.int .i64 0) (.string ⟨#[]⟩) (.slice none 0 0) (.slice (some ⟨rx, 0, none⟩) 2 2))
                clear HVx HZx
                go_simp
                refine hK.out _ _ hSn ?_
                clear hS hK K hSn z0 z1 z2 z3 z4 f0 f1 f2 f3 f4
                intro hS
                change wpAnyH _ _ _ _ _ _ _ _ (st5 V4 ox 0 (.int .i64 4) (.int .i64 0) (.string ⟨#[]⟩) (.slice none 0 0) (.slice (some ⟨rx, 0, none⟩) 2 2))
                change CGW _ _ _ _ _ _ _ _ _ _ _ _ (st5 V4 ox 0 (.int .i64 4) (.int .i64 0) (.string ⟨#[]⟩) (.slice none 0 0) (.slice (some ⟨rx, 0, none⟩) 2 2)) at hS
                generalize st5 V4 ox 0 (.int .i64 4) (.int .i64 0) (.string ⟨#[]⟩) (.slice none 0 0) (.slice (some ⟨rx, 0, none⟩) 2 2) = V5 at *
                refine take_oneHL 11 (AllReadyH.cons rfl (fun K hK => ?_) AllReadyH.nil) (by kernel_rfl)
                obtain ⟨_, _, z0, z1, z2, z3, z4, zf⟩ := HZy.out
                have f0 := zf 0
                have f1 := zf 1
                have f2 := zf 2
                have f3 := zf 3
                have f4 := zf 4
                clear zf
                have hSn := hS.st (b := oy) HZy.out.lo (.int .i64 4) (.int .i64 0) (.string ⟨#[]⟩) (.slice none 0 0) (.slice (some ⟨ry, 0, none⟩) 2 2)
                have HTY := hideK ((HVy.out.st (b := oy) (by simp) (.int .i64 4) (.int .i64 0) (.string ⟨#[]⟩) (.slice none 0 0) (.slice (some ⟨ry, 0, none⟩) 2 2)).tyb (show TyAt (st5 V5 oy 0 (.int .i64 4) (.int .i64 0) (.string ⟨#[]⟩) (.slice none 0 0) (.slice (some ⟨ry, 0, none⟩) 2 2)) oy 0 (gvT s) none 0 (some ⟨ry, 0, none⟩) 2 from HZy.out.ty (gvT s) none 0 (some ⟨ry, 0, none⟩) 2) (by rw [st5_size]; exact HZy.out.lt))
                have HTX2 := hideK ((HTX.out.st (b := oy) (by simp) (.int .i64 4) (.int .i64 0) (.string ⟨#[]⟩) (.slice none 0 0) (.slice (some ⟨ry, 0, none⟩) 2 2)).tyb (tyAt_st (b := oy) HNE.out.symm (.int .i64 4) (.int .i64 0) (.string ⟨#[]⟩) (.slice none 0 0) (.slice (some ⟨ry, 0, none⟩) 2 2) HTA.out) (by rw [st5_size]; exact HLX.out))
                clear HVy HZy HTX HTA HLX HOX
                go_simp
                refine hK.out _ _ hSn ?_
                clear hS hK K hSn z0 z1 z2 z3 z4 f0 f1 f2 f3 f4
                intro hS
                change wpAnyH _ _ _ _ _ _ _ _ (st5 V5 oy 0 (.int .i64 4) (.int .i64 0) (.string ⟨#[]⟩) (.slice none 0 0) (.slice (some ⟨ry, 0, none⟩) 2 2))
                change CGW _ _ _ _ _ _ _ _ _ _ _ _ (st5 V5 oy 0 (.int .i64 4) (.int .i64 0) (.string ⟨#[]⟩) (.slice none 0 0) (.slice (some ⟨ry, 0, none⟩) 2 2)) at hS
                generalize st5 V5 oy 0 (.int .i64 4) (.int .i64 0) (.string ⟨#[]⟩) (.slice none 0 0) (.slice (some ⟨ry, 0, none⟩) 2 2) = V6 at *
                refine wpAnyH_done (by kernel_rfl) ?_ _
                go_wp2_with fail
                go_meet
                exact ⟨_, _, _, _, _, _, _, _, _, _, _, _, rfl, rfl, hS, HTX2.out, HTY.out⟩
              · go_simp
                have hSn := hS.al (.cells #[.int .i64 0, .int .i64 0, .string ⟨#[]⟩, .slice none 0 0, .slice none 0 0] 25)
                have HZx := hideK (BXZ.new (be := be) hS.lt)
                have HNE := hideK (show oy ≠ V2.heap.size from by have := HZy.out.lt; omega)
                replace HZy := hideK (HZy.out.al (.cells #[.int .i64 0, .int .i64 0, .string ⟨#[]⟩, .slice none 0 0, .slice none 0 0] 25))
                replace HVy := hideK (HVy.out.box (.cells #[.int .i64 0, .int .i64 0, .string ⟨#[]⟩, .slice none 0 0, .slice none 0 0] 25))
                refine hK.out _ _ hSn ?_
                clear hS hK K hSn
                intro hS
                generalize V2.heap.size = ox at *
                generalize World.alloc V2 (.cells #[.int .i64 0, .int .i64 0, .string ⟨#[]⟩, .slice none 0 0, .slice none 0 0] 25) = V3 at *
                refine take_oneHL 2 (AllReadyH.cons rfl (fun K hK => ?_) AllReadyH.nil) (by kernel_rfl)
                go_simp
                have hSn := hS.al (.cells #[.int .i64 t.kind, .int .i64 t.so, .string t.name, .slice al t.labels.length cl, .slice ak t.kids.length ck, .int .i64 1, .int .i64 0, .string ⟨#[]⟩, .slice none 0 0, .slice none 0 0] 25)
                have HVx := hideK (tv_row hS.bl HT.out [ox, oy] (bs2 hS HZx.out HZy.out))
                replace HZy := hideK (HZy.out.al (.cells #[.int .i64 t.kind, .int .i64 t.so, .string t.name, .slice al t.labels.length cl, .slice ak t.kids.length ck, .int .i64 1, .int .i64 0, .string ⟨#[]⟩, .slice none 0 0, .slice none 0 0] 25))
                replace HZx := hideK (HZx.out.al (.cells #[.int .i64 t.kind, .int .i64 t.so, .string t.name, .slice al t.labels.length cl, .slice ak t.kids.length ck, .int .i64 1, .int .i64 0, .string ⟨#[]⟩, .slice none 0 0, .slice none 0 0] 25))
                replace HVy := hideK (HVy.out.al (.cells #[.int .i64 t.kind, .int .i64 t.so, .string t.name, .slice al t.labels.length cl, .slice ak t.kids.length ck, .int .i64 1, .int .i64 0, .string ⟨#[]⟩, .slice none 0 0, .slice none 0 0] 25))
                refine hK.out _ _ hSn ?_
                clear hS hK K hSn
                intro hS
                generalize V3.heap.size = rx at *
                generalize World.alloc V3 (.cells #[.int .i64 t.kind, .int .i64 t.so, .string t.name, .slice al t.labels.length cl, .slice ak t.kids.length ck, .int .i64 1, .int .i64 0, .string ⟨#[]⟩, .slice none 0 0, .slice none 0 0] 25) = V4 at *
                refine wpAnyH_take (i := 3) (v := (.agg #[.int .i64 4, .int .i64 0, .string ⟨#[]⟩, .slice none 0 0, .slice (some ⟨rx, 0, none⟩) 2 2])) rfl (by kernel_rfl) (by kernel_rfl) (by kernel_rfl) (fun _ _ _ h => h) (Or.inl ⟨by rfl, fun W hW => by go_simp⟩) hS ?_
                refine take_oneHL 10 (AllReadyH.cons rfl (fun K hK => ?_) AllReadyH.nil) (by kernel_rfl)
                obtain ⟨_, _, z0, z1, z2, z3, z4, zf⟩ := HZx.out
                have f0 := zf 0
                have f1 := zf 1
                have f2 := zf 2
                have f3 := zf 3
                have f4 := zf 4
                clear zf
                have hSn := hS.st (b := ox) HZx.out.lo (.int .i64 4) (.int .i64 0) (.string ⟨#[]⟩) (.slice none 0 0) (.slice (some ⟨rx, 0, none⟩) 2 2)
                have HOX := hideK HZx.out.lo
                have HTX := hideK (HVx.out.st (b := ox) (by simp) (.int .i64 4) (.int .i64 0) (.string ⟨#[]⟩) (.slice none 0 0) (.slice (some ⟨rx, 0, none⟩) 2 2))
                have HTA := hideK (show TyAt (st5 V4 ox 0 (.int .i64 4) (.int .i64 0) (.string ⟨#[]⟩) (.slice none 0 0) (.slice (some ⟨rx, 0, none⟩) 2 2)) ox 0 (gvT t) none 0 (some ⟨rx, 0, none⟩) 2 from HZx.out.ty (gvT t) none 0 (some ⟨rx, 0, none⟩) 2)
                have HLX := hideK (show ox < (st5 V4 ox 0 (.int .i64 4) (.int .i64 0) (.string ⟨#[]⟩) (.slice none 0 0) (.slice (some ⟨rx, 0, none⟩) 2 2)).heap.size from by rw [st5_size]; exact HZx.out.lt)
                replace HZy := hideK (HZy.out.st (b' := ox) HNE.out (.int .i64 4) (.int .i64 0) (.string ⟨#[]⟩) (.slice none 0 0) (.slice (some ⟨rx, 0, none⟩) 2 2))
                replace HVy := hideK (HVy.out.st (b := ox) (by simp) (.int .i64 4) (.int .i64 0) (.string ⟨#[]⟩) (.slice none 0 0) (.slice (some ⟨rx, 0, none⟩) 2 2))
                clear HVx HZx
                go_simp
                refine hK.out _ _ hSn ?_
                clear hS hK K hSn z0 z1 z2 z3 z4 f0 f1 f2 f3 f4
                intro hS
                change wpAnyH _ _ _ _ _ _ _ _ (st5 V4 ox 0 (.int .i64 4) (.int .i64 0) (.string ⟨#[]⟩) (.slice none 0 0) (.slice (some ⟨rx, 0, none⟩) 2 2))
                change CGW _ _ _ _ _ _ _ _ _ _ _ _ (st5 V4 ox 0 (.int .i64 4) (.int .i64 0) (.string ⟨#[]⟩) (.slice none 0 0) (.slice (some ⟨rx, 0, none⟩) 2 2)) at hS
                generalize st5 V4 ox 0 (.int .i64 4) (.int .i64 0) (.string ⟨#[]⟩) (.slice none 0 0) (.slice (some ⟨rx, 0, none⟩) 2 2) = V5 at *
                refine take_oneHL 11 (AllReadyH.cons rfl (fun K hK => ?_) AllReadyH.nil) (by kernel_rfl)
                obtain ⟨_, _, z0, z1, z2, z3, z4, zf⟩ := HZy.out
                have f0 := zf 0
                have f1 := zf 1
                have f2 := zf 2
                have f3 := zf 3
                have f4 := zf 4
                clear zf
                have hSn := hS.st (b := oy) HZy.out.lo (.int .i64 4) (.int .i64 0) (.string ⟨#[]⟩) (.slice none 0 0) (.slice (some ⟨ry, 0, none⟩) 2 2)
                have HTY := hideK ((HVy.out.st (b := oy) (by simp) (.int .i64 4) (.int .i64 0) (.string ⟨#[]⟩) (.slice none 0 0) (.slice (some ⟨ry, 0, none⟩) 2 2)).tyb (show TyAt (st5 V5 oy 0 (.int .i64 4) (.int .i64 0) (.string ⟨#[]⟩) (.slice none 0 0) (.slice (some ⟨ry, 0, none⟩) 2 2)) oy 0 (gvT s) none 0 (some ⟨ry, 0, none⟩) 2 from HZy.out.ty (gvT s) none 0 (some ⟨ry, 0, none⟩) 2) (by rw [st5_size]; exact HZy.out.lt))
                have HTX2 := hideK ((HTX.out.st (b := oy) (by simp) (.int .i64 4) (.int .i64 0) (.string ⟨#[]⟩) (.slice none 0 0) (.slice (some ⟨ry, 0, none⟩) 2 2)).tyb (tyAt_st (b := oy) HNE.out.symm (.int .i64 4) (.int .i64 0) (.string ⟨#[]⟩) (.slice none 0 0) (.slice (some ⟨ry, 0, none⟩) 2 2) HTA.out) (by rw [st5_size]; exact HLX.out))
                clear HVy HZy HTX HTA HLX HOX
                go_simp
                refine hK.out _ _ hSn ?_
                clear hS hK K hSn z0 z1 z2 z3 z4 f0 f1 f2 f3 f4
                intro hS
                change wpAnyH _ _ _ _ _ _ _ _ (st5 V5 oy 0 (.int .i64 4) (.int .i64 0) (.string ⟨#[]⟩) (.slice none 0 0) (.slice (some ⟨ry, 0, none⟩) 2 2))
                change CGW _ _ _ _ _ _ _ _ _ _ _ _ (st5 V5 oy 0 (.int .i64 4) (.int .i64 0) (.string ⟨#[]⟩) (.slice none 0 0) (.slice (some ⟨ry, 0, none⟩) 2 2)) at hS
                generalize st5 V5 oy 0 (.int .i64 4) (.int .i64 0) (.string ⟨#[]⟩) (.slice none 0 0) (.slice (some ⟨ry, 0, none⟩) 2 2) = V6 at *
                refine wpAnyH_done (by kernel_rfl) ?_ _
                go_wp2_with fail
                go_meet
                exact ⟨_, _, _, _, _, _, _, _, _, _, _, _, rfl, rfl, hS, HTX2.out, HTY.out⟩
          · go_simp
            have hSn := hS.al (.cells #[.int .i64 0, .int .i64 0, .string ⟨#[]⟩, .slice none 0 0, .slice none 0 0] 25)
            have HZx := hideK (BXZ.new (be := be) hS.lt)
            refine hK.out _ _ hSn ?_
            clear hS hK K hSn
            intro hS
            generalize V0.heap.size = ox at *
            generalize World.alloc V0 (.cells #[.int .i64 0, .int .i64 0, .string ⟨#[]⟩, .slice none 0 0, .slice none 0 0] 25) = V1 at *
            refine wpAnyH_ready (rs := [2, 6, 9]) (by kernel_rfl) (by simp) (AllReadyH.cons rfl (fun K hK => ?_) (AllReadyH.cons rfl (fun K hK => ?_) (AllReadyH.cons rfl (fun K hK => ?_) AllReadyH.nil)))
            · go_simp
              have hSn := hS.al (.cells #[.int .i64 t.kind, .int .i64 t.so, .string t.name, .slice al t.labels.length cl, .slice ak t.kids.length ck, .int .i64 1, .int .i64 0, .string ⟨#[]⟩, .slice none 0 0, .slice none 0 0] 25)
              have HVx := hideK (tv_row hS.bl HT.out [ox] (bs1 hS HZx.out))
              replace HZx := hideK (HZx.out.al (.cells #[.int .i64 t.kind, .int .i64 t.so, .string t.name, .slice al t.labels.length cl, .slice ak t.kids.length ck, .int .i64 1, .int .i64 0, .string ⟨#[]⟩, .slice none 0 0, .slice none 0 0] 25))
              refine hK.out _ _ hSn ?_
              clear hS hK K hSn
              intro hS
              generalize V1.heap.size = rx at *
              generalize World.alloc V1 (.cells #[.int .i64 t.kind, .int .i64 t.so, .string t.name, .slice al t.labels.length cl, .slice ak t.kids.length ck, .int .i64 1, .int .i64 0, .string ⟨#[]⟩, .slice none 0 0, .slice none 0 0] 25) = V2 at *
              refine wpAnyH_take (i := 3) (v := (.agg #[.int .i64 4, .int .i64 0, .string ⟨#[]⟩, .slice none 0 0, .slice (some ⟨rx, 0, none⟩) 2 2])) rfl (by kernel_rfl) (by kernel_rfl) (by kernel_rfl) (fun _ _ _ h => h) (Or.inl ⟨by rfl, fun W hW => by go_simp⟩) hS ?_
              refine wpAnyH_ready (rs := [6, 9]) (by kernel_rfl) (by simp) (AllReadyH.cons rfl (fun K hK => ?_) (AllReadyH.cons rfl (fun K hK => ?_) AllReadyH.nil))
              · go_simp
                have hSn := hS.al (.cells #[.int .i64 s.kind, .int .i64 s.so, .string s.name, .slice sal s.labels.length scl, .slice sak s.kids.length sck, .int .i64 1, .int .i64 0, .string ⟨#[]⟩, .slice none 0 0, .slice none 0 0] 25)
                have HVy := hideK (tv_row hS.bl HS.out [ox] (bs1 hS HZx.out))
                replace HZx := hideK (HZx.out.al (.cells #[.int .i64 s.kind, .int .i64 s.so, .string s.name, .slice sal s.labels.length scl, .slice sak s.kids.length sck, .int .i64 1, .int .i64 0, .string ⟨#[]⟩, .slice none 0 0, .slice none 0 0] 25))
                replace HVx := hideK (HVx.out.al (.cells #[.int .i64 s.kind, .int .i64 s.so, .string s.name, .slice sal s.labels.length scl, .slice sak s.kids.length sck, .int .i64 1, .int .i64 0, .string ⟨#[]⟩, .slice none 0 0, .slice none 0 0] 25))
                refine hK.out _ _ hSn ?_
                clear hS hK K hSn
                intro hS
                generalize V2.heap.size = ry at *
                generalize World.alloc V2 (.cells #[.int .i64 s.kind, .int .i64 s.so, .string s.name, .slice sal s.labels.length scl, .slice sak s.kids.length sck, .int .i64 1, .int .i64 0, .string ⟨#[]⟩, .slice none 0 0, .slice none 0 0] 25) = V3 at *
                refine wpAnyH_take (i := 7) (v := (.agg #[.int .i64 4, .int .i64 0, .string ⟨#[]⟩, .slice none 0 0, .slice (some ⟨ry, 0, none⟩) 2 2])) rfl (by kernel_rfl) (by kernel_rfl) (by kernel_rfl) (fun _ _ _ h => h) (Or.inl ⟨by rfl, fun W hW => by go_simp⟩) hS ?_
                refine take_oneHL 9 (AllReadyH.cons rfl (fun K hK => ?_) AllReadyH.nil) (by kernel_rfl)
                go_simp
                have hSn := hS.al (.cells #[.int .i64 0, .int .i64 0, .string ⟨#[]⟩, .slice none 0 0, .slice none 0 0] 25)
                have HZy := hideK (BXZ.new (be := be) hS.lt)
                have HNE := hideK (show ox ≠ V3.heap.size from by have := HZx.out.lt; omega)
                replace HZx := hideK (HZx.out.al (.cells #[.int .i64 0, .int .i64 0, .string ⟨#[]⟩, .slice none 0 0, .slice none 0 0] 25))
                replace HVx := hideK (HVx.out.box (.cells #[.int .i64 0, .int .i64 0, .string ⟨#[]⟩, .slice none 0 0, .slice none 0 0] 25))
                replace HVy := hideK (HVy.out.box (.cells #[.int .i64 0, .int .i64 0, .string ⟨#[]⟩, .slice none 0 0, .slice none 0 0] 25))
                refine hK.out _ _ hSn ?_
                clear hS hK K hSn
                intro hS
                generalize V3.heap.size = oy at *
                generalize World.alloc V3 (.cells #[.int .i64 0, .int .i64 0, .string ⟨#[]⟩, .slice none 0 0, .slice none 0 0] 25) = V4 at *
                refine take_oneHL 10 (AllReadyH.cons rfl (fun K hK => ?_) AllReadyH.nil) (by kernel_rfl)
                obtain ⟨_, _, z0, z1, z2, z3, z4, zf⟩ := HZx.out
                have f0 := zf 0
                have f1 := zf 1
                have f2 := zf 2
                have f3 := zf 3
                have f4 := zf 4
                clear zf
                have hSn := hS.st (b := ox) HZx.out.lo (.int .i64 4) (.int .i64 0) (.string ⟨#[]⟩) (.slice none 0 0) (.slice (some ⟨rx, 0, none⟩) 2 2)
                have HOX := hideK HZx.out.lo
                have HTX := hideK (HVx.out.st (b := ox) (by simp) (.int .i64 4) (.int .i64 0) (.string ⟨#[]⟩) (.slice none 0 0) (.slice (some ⟨rx, 0, none⟩) 2 2))
                have HTA := hideK (show TyAt (st5 V4 ox 0 (.int .i64 4) (.int .i64 0) (.string ⟨#[]⟩) (.slice none 0 0) (.slice (some ⟨rx, 0, none⟩) 2 2)) ox 0 (gvT t) none 0 (some ⟨rx, 0, none⟩) 2 from HZx.out.ty (gvT t) none 0 (some ⟨rx, 0, none⟩) 2)
                have HLX := hideK (show ox < (st5 V4 ox 0 (.int .i64 4) (.int .i64 0) (.string ⟨#[]⟩) (.slice none 0 0) (.slice (some ⟨rx, 0, none⟩) 2 2)).heap.size from by rw [st5_size]; exact HZx.out.lt)
                replace HZy := hideK (HZy.out.st (b' := ox) HNE.out.symm (.int .i64 4) (.int .i64 0) (.string ⟨#[]⟩) (.slice none 0 0) (.slice (some ⟨rx, 0, none⟩) 2 2))
                replace HVy := hideK (HVy.out.st (b := ox) (by simp) (.int .i64 4) (.int .i64 0) (.string ⟨#[]⟩) (.slice none 0 0) (.slice (some ⟨rx, 0, none⟩) 2 2))
                clear HVx HZx
                go_simp
                refine hK.out _ _ hSn ?_
                clear hS hK K hSn z0 z1 z2 z3 z4 f0 f1 f2 f3 f4
                intro hS
                change wpAnyH _ _ _ _ _ _ _ _ (st5 V4 ox 0 (.int .i64 4) (.int .i64 0) (.string ⟨#[]⟩) (.slice none 0 0) (.slice (some ⟨rx, 0, none⟩) 2 2))
                change CGW _ _ _ _ _ _ _ _ _ _ _ _ (st5 V4 ox 0 (.int .i64 4) (.int .i64 0) (.string ⟨#[]⟩) (.slice none 0 0) (.slice (some ⟨rx, 0, none⟩) 2 2)) at hS
                generalize st5 V4 ox 0 (.int .i64 4) (.int .i64 0) (.string ⟨#[]⟩) (.slice none 0 0) (.slice (some ⟨rx, 0, none⟩) 2 2) = V5 at *
                refine take_oneHL 11 (AllReadyH.cons rfl (fun K hK => ?_) AllReadyH.nil) (by kernel_rfl)
                obtain ⟨_, _, z0, z1, z2, z3, z4, zf⟩ := HZy.out
                have f0 := zf 0
                have f1 := zf 1
                have f2 := zf 2
                have f3 := zf 3
                have f4 := zf 4
                clear zf
                have hSn := hS.st (b := oy) HZy.out.lo (.int .i64 4) (.int .i64 0) (.string ⟨#[]⟩) (.slice none 0 0) (.slice (some ⟨ry, 0, none⟩) 2 2)
                have HTY := hideK ((HVy.out.st (b := oy) (by simp) (.int .i64 4) (.int .i64 0) (.string ⟨#[]⟩) (.slice none 0 0) (.slice (some ⟨ry, 0, none⟩) 2 2)).tyb (show TyAt (st5 V5 oy 0 (.int .i64 4) (.int .i64 0) (.string ⟨#[]⟩) (.slice none 0 0) (.slice (some ⟨ry, 0, none⟩) 2 2)) oy 0 (gvT s) none 0 (some ⟨ry, 0, none⟩) 2 from HZy.out.ty (gvT s) none 0 (some ⟨ry, 0, none⟩) 2) (by rw [st5_size]; exact HZy.out.lt))
                have HTX2 := hideK ((HTX.out.st (b := oy) (by simp) (.int .i64 4) (.int .i64 0) (.string ⟨#[]⟩) (.slice none 0 0) (.slice (some ⟨ry, 0, none⟩) 2 2)).tyb (tyAt_st (b := oy) HNE.out (.int .i64 4) (.int .i64 0) (.string ⟨#[]⟩) (.slice none 0 0) (.slice (some ⟨ry, 0, none⟩) 2 2) HTA.out) (by rw [st5_size]; exact HLX.out))
                clear HVy HZy HTX HTA HLX HOX
                go_simp
                refine hK.out _ _ hSn ?_
                clear hS hK K hSn z0 z1 z2 z3 z4 f0 f1 f2 f3 f4
                intro hS
                change wpAnyH _ _ _ _ _ _ _ _ (st5 V5 oy 0 (.int .i64 4) (.int .i64 0) (.string ⟨#[]⟩) (.slice none 0 0) (.slice (some ⟨ry, 0, none⟩) 2 2))
                change CGW _ _ _ _ _ _ _ _ _ _ _ _ (st5 V5 oy 0 (.int .i64 4) (.int .i64 0) (.string ⟨#[]⟩) (.slice none 0 0) (.slice (some ⟨ry, 0, none⟩) 2 2)) at hS
                generalize st5 V5 oy 0 (.int .i64 4) (.int .i64 0) (.string ⟨#[]⟩) (.slice none 0 0) (.slice (some ⟨ry, 0, none⟩) 2 2) = V6 at *
                refine wpAnyH_done (by kernel_rfl) ?_ _
                go_wp2_with fail
                go_meet
                exact ⟨_, _, _, _, _, _, _, _, _, _, _, _, rfl, rfl, hS, HTX2.out, HTY.out⟩
              · go_simp
                have hSn := hS.al (.cells #[.int .i64 0, .int .i64 0, .string ⟨#[]⟩, .slice none 0 0, .slice none 0 0] 25)
                have HZy := hideK (BXZ.new (be := be) hS.lt)
                have HNE := hideK (show ox ≠ V2.heap.size from by have := HZx.out.lt; omega)
                replace HZx := hideK (HZx.out.al (.cells #[.int .i64 0, .int .i64 0, .string ⟨#[]⟩, .slice none 0 0, .slice none 0 0] 25))
                replace HVx := hideK (HVx.out.box (.cells #[.int .i64 0, .int .i64 0, .string ⟨#[]⟩, .slice none 0 0, .slice none 0 0] 25))
                refine hK.out _ _ hSn ?_
                clear hS hK K hSn
                intro hS
                generalize V2.heap.size = oy at *
                generalize World.alloc V2 (.cells #[.int .i64 0, .int .i64 0, .string ⟨#[]⟩, .slice none 0 0, .slice none 0 0] 25) = V3 at *
                refine wpAnyH_ready (rs := [6, 10]) (by kernel_rfl) (by simp) (AllReadyH.cons rfl (fun K hK => ?_) (AllReadyH.cons rfl (fun K hK => ?_) AllReadyH.nil))
                · go_simp
                  have hSn := hS.al (.cells #[.int .i64 s.kind, .int .i64 s.so, .string s.name, .slice sal s.labels.length scl, .slice sak s.kids.length sck, .int .i64 1, .int .i64 0, .string ⟨#[]⟩, .slice none 0 0, .slice none 0 0] 25)
                  have HVy := hideK (tv_row hS.bl HS.out [oy, ox] (bs2 hS HZy.out HZx.out))
                  replace HZx := hideK (HZx.out.al (.cells #[.int .i64 s.kind, .int .i64 s.so, .string s.name, .slice sal s.labels.length scl, .slice sak s.kids.length sck, .int .i64 1, .int .i64 0, .string ⟨#[]⟩, .slice none 0 0, .slice none 0 0] 25))
                  replace HZy := hideK (HZy.out.al (.cells #[.int .i64 s.kind, .int .i64 s.so, .string s.name, .slice sal s.labels.length scl, .slice sak s.kids.length sck, .int .i64 1, .int .i64 0, .string ⟨#[]⟩, .slice none 0 0, .slice none 0 0] 25))
                  replace HVx := hideK (HVx.out.al (.cells #[.int .i64 s.kind, .int .i64 s.so, .string s.name, .slice sal s.labels.length scl, .slice sak s.kids.length sck, .int .i64 1, .int .i64 0, .string ⟨#[]⟩, .slice none 0 0, .slice none 0 0] 25))
                  refine hK.out _ _ hSn ?_
                  clear hS hK K hSn
                  intro hS
                  generalize V3.heap.size = ry at *
                  generalize World.alloc V3 (.cells #[.int .i64 s.kind, .int .i64 s.so, .string s.name, .slice sal s.labels.length scl, .slice sak s.kids.length sck, .int .i64 1, .int .i64 0, .string ⟨#[]⟩, .slice none 0 0, .slice none 0 0] 25) = V4 at *
                  refine wpAnyH_take (i := 7) (v := (.agg #[.int .i64 4, .int .i64 0, .string ⟨#[]⟩, .slice none 0 0, .slice (some ⟨ry, 0, none⟩) 2 2])) rfl (by kernel_rfl) (by kernel_rfl) (by kernel_rfl) (fun _ _ _ h => h) (Or.inl ⟨by rfl, fun W hW => by go_simp⟩) hS ?_
                  refine take_oneHL 10 (AllReadyH.cons rfl (fun K hK => ?_) AllReadyH.nil) (by kernel_rfl)
                  obtain ⟨_, _, z0, z1, z2, z3, z4, zf⟩ := HZx.out
                  have f0 := zf 0
                  have f1 := zf 1
                  have f2 := zf 2
                  have f3 := zf 3
                  have f4 := zf 4
                  clear zf
                  have hSn := hS.st (b := ox) HZx.out.lo (.int .i64 4) (.int .i64 0) (.string ⟨#[]⟩) (.slice none 0 0) (.slice (some ⟨rx, 0, none⟩) 2 2)
                  have HOX := hideK HZx.out.lo
                  have HTX := hideK (HVx.out.st (b := ox) (by simp) (.int .i64 4) (.int .i64 0) (.string ⟨#[]⟩) (.slice none 0 0) (.slice (some ⟨rx, 0, none⟩) 2 2))
                  have HTA := hideK (show TyAt (st5 V4 ox 0 (.int .i64 4) (.int .i64 0) (.string ⟨#[]⟩) (.slice none 0 0) (.slice (some ⟨rx, 0, none⟩) 2 2)) ox 0 (gvT t) none 0 (some ⟨rx, 0, none⟩) 2 from HZx.out.ty (gvT t) none 0 (some ⟨rx, 0, none⟩) 2)
                  have HLX := hideK (show ox < (st5 V4 ox 0 (.int .i64 4) (.int .i64 0) (.string ⟨#[]⟩) (.slice none 0 0) (.slice (some ⟨rx, 0, none⟩) 2 2)).heap.size from by rw [st5_size]; exact HZx.out.lt)
                  replace HZy := hideK (HZy.out.st (b' := ox) HNE.out.symm (.int .i64 4) (.int .i64 0) (.string ⟨#[]⟩) (.slice none 0 0) (.slice (some ⟨rx, 0, none⟩) 2 2))
                  replace HVy := hideK (HVy.out.st (b := ox) (by simp) (.int .i64 4) (.int .i64 0) (.string ⟨#[]⟩) (.slice none 0 0) (.slice (some ⟨rx, 0, none⟩) 2 2))
                  clear HVx HZx
                  go_simp
                  refine hK.out _ _ hSn ?_
                  clear hS hK K hSn z0 z1 z2 z3 z4 f0 f1 f2 f3 f4
                  intro hS
                  change wpAnyH _ _ _ _ _ _ _ _ (st5 V4 ox 0 (.int .i64 4) (.int .i64 0) (.string ⟨#[]⟩) (.slice none 0 0) (.slice (some ⟨rx, 0, none⟩) 2 2))
                  change CGW _ _ _ _ _ _ _ _ _ _ _ _ (st5 V4 ox 0 (.int .i64 4) (.int .i64 0) (.string ⟨#[]⟩) (.slice none 0 0) (.slice (some ⟨rx, 0, none⟩) 2 2)) at hS
                  generalize st5 V4 ox 0 (.int .i64 4) (.int .i64 0) (.string ⟨#[]⟩) (.slice none 0 0) (.slice (some ⟨rx, 0, none⟩) 2 2) = V5 at *
                  refine take_oneHL 11 (AllReadyH.cons rfl (fun K hK => ?_) AllReadyH.nil) (by kernel_rfl)
                  obtain ⟨_, _, z0, z1, z2, z3, z4, zf⟩ := HZy.out
                  have f0 := zf 0
                  have f1 := zf 1
                  have f2 := zf 2
                  have f3 := zf 3
                  have f4 := zf 4
                  clear zf
                  have hSn := hS.st (b := oy) HZy.out.lo (.int .i64 4) (.int .i64 0) (.string ⟨#[]⟩) (.slice none 0 0) (.slice (some ⟨ry, 0, none⟩) 2 2)
                  have HTY := hideK ((HVy.out.st (b := oy) (by simp) (.int .i64 4) (.int .i64 0) (.string ⟨#[]⟩) (.slice none 0 0) (.slice (some ⟨ry, 0, none⟩) 2 2)).tyb (show TyAt (st5 V5 oy 0 (.int .i64 4) (.int .i64 0) (.string ⟨#[]⟩) (.slice none 0 0) (.slice (some ⟨ry, 0, none⟩) 2 2)) oy 0 (gvT s) none 0 (some ⟨ry, 0, none⟩) 2 from HZy.out.ty (gvT s) none 0 (some ⟨ry, 0, none⟩) 2) (by rw [st5_size]; exact HZy.out.lt))
                  have HTX2 := hideK ((HTX.out.st (b := oy) (by simp) (.int .i64 4) (.int .i64 0) (.string ⟨#[]⟩) (.slice none 0 0) (.slice (some ⟨ry, 0, none⟩) 2 2)).tyb (tyAt_st (b := oy) HNE.out (.int .i64 4) (.int .i64 0) (.string ⟨#[]⟩) (.slice none 0 0) (.slice (some ⟨ry, 0, none⟩) 2 2) HTA.out) (by rw [st5_size]; exact HLX.out))
                  clear HVy HZy HTX HTA HLX HOX
                  go_simp
                  refine hK.out _ _ hSn ?_
                  clear hS hK K hSn z0 z1 z2 z3 z4 f0 f1 f2 f3 f4
                  intro hS
                  change wpAnyH _ _ _ _ _ _ _ _ (st5 V5 oy 0 (.int .i64 4) (.int .i64 0) (.string ⟨#[]⟩) (.slice none 0 0) (.slice (some ⟨ry, 0, none⟩) 2 2))
                  change CGW _ _ _ _ _ _ _ _ _ _ _ _ (st5 V5 oy 0 (.int .i64 4) (.int .i64 0) (.string ⟨#[]⟩) (.slice none 0 0) (.slice (some ⟨ry, 0, none⟩) 2 2)) at hS
                  generalize st5 V5 oy 0 (.int .i64 4) (.int .i64 0) (.string ⟨#[]⟩) (.slice none 0 0) (.slice (some ⟨ry, 0, none⟩) 2 2) = V6 at *
                  refine wpAnyH_done (by kernel_rfl) ?_ _
                  go_wp2_with fail
                  go_meet
                  exact ⟨_, _, _, _, _, _, _, _, _, _, _, _, rfl, rfl, hS, HTX2.out, HTY.out⟩
                · obtain ⟨_, _, z0, z1, z2, z3, z4, zf⟩ := HZx.out
                  have f0 := zf 0
                  have f1 := zf 1
                  have f2 := zf 2
                  have f3 := zf 3
                  have f4 := zf 4
                  clear zf
                  have hSn := hS.st (b := ox) HZx.out.lo (.int .i64 4) (.int .i64 0) (.string ⟨#[]⟩) (.slice none 0 0) (.slice (some ⟨rx, 0, none⟩) 2 2)
                  have HOX := hideK HZx.out.lo
                  have HTX := hideK (HVx.out.st (b := ox) (by simp) (.int .i64 4) (.int .i64 0) (.string ⟨#[]⟩) (.slice none 0 0) (.slice (some ⟨rx, 0, none⟩) 2 2))
                  have HTA := hideK (show TyAt (st5 V3 ox 0 (.int .i64 4) (.int .i64 0) (.string ⟨#[]⟩) (.slice none 0 0) (.slice (some ⟨rx, 0, none⟩) 2 2)) ox 0 (gvT t) none 0 (some ⟨rx, 0, none⟩) 2 from HZx.out.ty (gvT t) none 0 (some ⟨rx, 0, none⟩) 2)
                  have HLX := hideK (show ox < (st5 V3 ox 0 (.int .i64 4) (.int .i64 0) (.string ⟨#[]⟩) (.slice none 0 0) (.slice (some ⟨rx, 0, none⟩) 2 2)).heap.size from by rw [st5_size]; exact HZx.out.lt)
                  replace HZy := hideK (HZy.out.st (b' := ox) HNE.out.symm (.int .i64 4) (.int .i64 0) (.string ⟨#[]⟩) (.slice none 0 0) (.slice (some ⟨rx, 0, none⟩) 2 2))
                  clear HVx HZx
                  go_simp
                  refine hK.out _ _ hSn ?_
                  clear hS hK K hSn z0 z1 z2 z3 z4 f0 f1 f2 f3 f4
                  intro hS
                  change wpAnyH _ _ _ _ _ _ _ _ (st5 V3 ox 0 (.int .i64 4) (.int .i64 0) (.string ⟨#[]⟩) (.slice none 0 0) (.slice (some ⟨rx, 0, none⟩) 2 2))
                  change CGW _ _ _ _ _ _ _ _ _ _ _ _ (st5 V3 ox 0 (.int .i64 4) (.int .i64 0) (.string ⟨#[]⟩) (.slice none 0 0) (.slice (some ⟨rx, 0, none⟩) 2 2)) at hS
                  generalize st5 V3 ox 0 (.int .i64 4) (.int .i64 0) (.string ⟨#[]⟩) (.slice none 0 0) (.slice (some ⟨rx, 0, none⟩) 2 2) = V4 at *
                  refine take_oneHL 6 (AllReadyH.cons rfl (fun K hK => ?_) AllReadyH.nil) (by kernel_rfl)
                  go_simp
                  have hSn := hS.al (.cells #[.int .i64 s.kind, .int .i64 s.so, .string s.name, .slice sal s.labels.length scl, .slice sak s.kids.length sck, .int .i64 1, .int .i64 0, .string ⟨#[]⟩, .slice none 0 0, .slice none 0 0] 25)
                  have HVy := hideK (tv_row hS.bl HS.out [oy, ox] (bsB hS HOX.out HLX.out HZy.out))
                  replace HZy := hideK (HZy.out.al (.cells #[.int .i64 s.kind, .int .i64 s.so, .string s.name, .slice sal s.labels.length scl, .slice sak s.kids.length sck, .int .i64 1, .int .i64 0, .string ⟨#[]⟩, .slice none 0 0, .slice none 0 0] 25))
                  replace HTX := hideK (HTX.out.al (.cells #[.int .i64 s.kind, .int .i64 s.so, .string s.name, .slice sal s.labels.length scl, .slice sak s.kids.length sck, .int .i64 1, .int .i64 0, .string ⟨#[]⟩, .slice none 0 0, .slice none 0 0] 25))
                  replace HTA := hideK (HTA.out.keep ((Below.refl _ _).alloc (Nat.le_refl _) (.cells #[.int .i64 s.kind, .int .i64 s.so, .string s.name, .slice sal s.labels.length scl, .slice sak s.kids.length sck, .int .i64 1, .int .i64 0, .string ⟨#[]⟩, .slice none 0 0, .slice none 0 0] 25)) HLX.out)
                  replace HLX := hideK (show ox < (World.alloc V4 (.cells #[.int .i64 s.kind, .int .i64 s.so, .string s.name, .slice sal s.labels.length scl, .slice sak s.kids.length sck, .int .i64 1, .int .i64 0, .string ⟨#[]⟩, .slice none 0 0, .slice none 0 0] 25)).heap.size from by have := HLX.out; simp; omega)
                  refine hK.out _ _ hSn ?_
                  clear hS hK K hSn
                  intro hS
                  generalize V4.heap.size = ry at *
                  generalize World.alloc V4 (.cells #[.int .i64 s.kind, .int .i64 s.so, .string s.name, .slice sal s.labels.length scl, .slice sak s.kids.length sck, .int .i64 1, .int .i64 0, .string ⟨#[]⟩, .slice none 0 0, .slice none 0 0] 25) = V5 at *
                  refine wpAnyH_take (i := 7) (v := (.agg #[.int .i64 4, .int .i64 0, .string ⟨#[]⟩, .slice none 0 0, .slice (some ⟨ry, 0, none⟩) 2 2])) rfl (by kernel_rfl) (by kernel_rfl) (by kernel_rfl) (fun _ _ _ h => h) (Or.inl ⟨by rfl, fun W hW => by go_simp⟩) hS ?_
                  refine take_oneHL 11 (AllReadyH.cons rfl (fun K hK => ?_) AllReadyH.nil) (by kernel_rfl)
                  obtain ⟨_, _, z0, z1, z2, z3, z4, zf⟩ := HZy.out
                  have f0 := zf 0
                  have f1 := zf 1
                  have f2 := zf 2
                  have f3 := zf 3
                  have f4 := zf 4
                  clear zf
                  have hSn := hS.st (b := oy) HZy.out.lo (.int .i64 4) (.int .i64 0) (.string ⟨#[]⟩) (.slice none 0 0) (.slice (some ⟨ry, 0, none⟩) 2 2)
                  have HTY := hideK ((HVy.out.st (b := oy) (by simp) (.int .i64 4) (.int .i64 0) (.string ⟨#[]⟩) (.slice none 0 0) (.slice (some ⟨ry, 0, none⟩) 2 2)).tyb (show TyAt (st5 V5 oy 0 (.int .i64 4) (.int .i64 0) (.string ⟨#[]⟩) (.slice none 0 0) (.slice (some ⟨ry, 0, none⟩) 2 2)) oy 0 (gvT s) none 0 (some ⟨ry, 0, none⟩) 2 from HZy.out.ty (gvT s) none 0 (some ⟨ry, 0, none⟩) 2) (by rw [st5_size]; exact HZy.out.lt))
                  have HTX2 := hideK ((HTX.out.st (b := oy) (by simp) (.int .i64 4) (.int .i64 0) (.string ⟨#[]⟩) (.slice none 0 0) (.slice (some ⟨ry, 0, none⟩) 2 2)).tyb (tyAt_st (b := oy) HNE.out (.int .i64 4) (.int .i64 0) (.string ⟨#[]⟩) (.slice none 0 0) (.slice (some ⟨ry, 0, none⟩) 2 2) HTA.out) (by rw [st5_size]; exact HLX.out))
                  clear HVy HZy HTX HTA HLX HOX
                  go_simp
                  refine hK.out _ _ hSn ?_
                  clear hS hK K hSn z0 z1 z2 z3 z4 f0 f1 f2 f3 f4
                  intro hS
                  change wpAnyH _ _ _ _ _ _ _ _ (st5 V5 oy 0 (.int .i64 4) (.int .i64 0) (.string ⟨#[]⟩) (.slice none 0 0) (.slice (some ⟨ry, 0, none⟩) 2 2))
                  change CGW _ _ _ _ _ _ _ _ _ _ _ _ (st5 V5 oy 0 (.int .i64 4) (.int .i64 0) (.string ⟨#[]⟩) (.slice none 0 0) (.slice (some ⟨ry, 0, none⟩) 2 2)) at hS
                  generalize st5 V5 oy 0 (.int .i64 4) (.int .i64 0) (.string ⟨#[]⟩) (.slice none 0 0) (.slice (some ⟨ry, 0, none⟩) 2 2) = V6 at *
                  refine wpAnyH_done (by kernel_rfl) ?_ _
                  go_wp2_with fail
                  go_meet
                  exact ⟨_, _, _, _, _, _, _, _, _, _, _, _, rfl, rfl, hS, HTX2.out, HTY.out⟩
            · go_simp
              have hSn := hS.al (.cells #[.int .i64 s.kind, .int .i64 s.so, .string s.name, .slice sal s.labels.length scl, .slice sak s.kids.length sck, .int .i64 1, .int .i64 0, .string ⟨#[]⟩, .slice none 0 0, .slice none 0 0] 25)
              have HVy := hideK (tv_row hS.bl HS.out [ox] (bs1 hS HZx.out))
              replace HZx := hideK (HZx.out.al (.cells #[.int .i64 s.kind, .int .i64 s.so, .string s.name, .slice sal s.labels.length scl, .slice sak s.kids.length sck, .int .i64 1, .int .i64 0, .string ⟨#[]⟩, .slice none 0 0, .slice none 0 0] 25))
              refine hK.out _ _ hSn ?_
              clear hS hK K hSn
              intro hS
              generalize V1.heap.size = ry at *
              generalize World.alloc V1 (.cells #[.int .i64 s.kind, .int .i64 s.so, .string s.name, .slice sal s.labels.length scl, .slice sak s.kids.length sck, .int .i64 1, .int .i64 0, .string ⟨#[]⟩, .slice none 0 0, .slice none 0 0] 25) = V2 at *
              refine wpAnyH_take (i := 7) (v := (.agg #[.int .i64 4, .int .i64 0, .string ⟨#[]⟩, .slice none 0 0, .slice (some ⟨ry, 0, none⟩) 2 2])) rfl (by kernel_rfl) (by kernel_rfl) (by kernel_rfl) (fun _ _ _ h => h) (Or.inl ⟨by rfl, fun W hW => by go_simp⟩) hS ?_
              refine wpAnyH_ready (rs := [2, 9]) (by kernel_rfl) (by simp) (AllReadyH.cons rfl (fun K hK => ?_) (AllReadyH.cons rfl (fun K hK => ?_) AllReadyH.nil))
              · go_simp
                have hSn := hS.al (.cells #[.int .i64 t.kind, .int .i64 t.so, .string t.name, .slice al t.labels.length cl, .slice ak t.kids.length ck, .int .i64 1, .int .i64 0, .string ⟨#[]⟩, .slice none 0 0, .slice none 0 0] 25)
                have HVx := hideK (tv_row hS.bl HT.out [ox] (bs1 hS HZx.out))
                replace HZx := hideK (HZx.out.al (.cells #[.int .i64 t.kind, .int .i64 t.so, .string t.name, .slice al t.labels.length cl, .slice ak t.kids.length ck, .int .i64 1, .int .i64 0, .string ⟨#[]⟩, .slice none 0 0, .slice none 0 0] 25))
                replace HVy := hideK (HVy.out.al (.cells #[.int .i64 t.kind, .int .i64 t.so, .string t.name, .slice al t.labels.length cl, .slice ak t.kids.length ck, .int .i64 1, .int .i64 0, .string ⟨#[]⟩, .slice none 0 0, .slice none 0 0] 25))
                refine hK.out _ _ hSn ?_
                clear hS hK K hSn
                intro hS
                generalize V2.heap.size = rx at *
                generalize World.alloc V2 (.cells #[.int .i64 t.kind, .int .i64 t.so, .string t.name, .slice al t.labels.length cl, .slice ak t.kids.length ck, .int .i64 1, .int .i64 0, .string ⟨#[]⟩, .slice none 0 0, .slice none 0 0] 25) = V3 at *
                refine wpAnyH_take (i := 3) (v := (.agg #[.int .i64 4, .int .i64 0, .string ⟨#[]⟩, .slice none 0 0, .slice (some ⟨rx, 0, none⟩) 2 2])) rfl (by kernel_rfl) (by kernel_rfl) (by kernel_rfl) (fun _ _ _ h => h) (Or.inl ⟨by rfl, fun W hW => by go_simp⟩) hS ?_
                refine take_oneHL 9 (AllReadyH.cons rfl (fun K hK => ?_) AllReadyH.nil) (by kernel_rfl)
                go_simp
                have hSn := hS.al (.cells #[.int .i64 0, .int .i64 0, .string ⟨#[]⟩, .slice none 0 0, .slice none 0 0] 25)
                have HZy := hideK (BXZ.new (be := be) hS.lt)
                have HNE := hideK (show ox ≠ V3.heap.size from by have := HZx.out.lt; omega)
                replace HZx := hideK (HZx.out.al (.cells #[.int .i64 0, .int .i64 0, .string ⟨#[]⟩, .slice none 0 0, .slice none 0 0] 25))
                replace HVy := hideK (HVy.out.box (.cells #[.int .i64 0, .int .i64 0, .string ⟨#[]⟩, .slice none 0 0, .slice none 0 0] 25))
                replace HVx := hideK (HVx.out.box (.cells #[.int .i64 0, .int .i64 0, .string ⟨#[]⟩, .slice none 0 0, .slice none 0 0] 25))
                refine hK.out _ _ hSn ?_
                clear hS hK K hSn
                intro hS
                generalize V3.heap.size = oy at *
                generalize World.alloc V3 (.cells #[.int .i64 0, .int .i64 0, .string ⟨#[]⟩, .slice none 0 0, .slice none 0 0] 25) = V4 at *
                refine take_oneHL 10 (AllReadyH.cons rfl (fun K hK => ?_) AllReadyH.nil) (by kernel_rfl)
                obtain ⟨_, _, z0, z1, z2, z3, z4, zf⟩ := HZx.out
                have f0 := zf 0
                have f1 := zf 1
                have f2 := zf 2
                have f3 := zf 3
                have f4 := zf 4
                clear zf
                have hSn := hS.st (b := ox) HZx.out.lo (.int .i64 4) (.int .i64 0) (.string ⟨#[]⟩) (.slice none 0 0) (.slice (some ⟨rx, 0, none⟩) 2 2)
                have HOX := hideK HZx.out.lo
                have HTX := hideK (HVx.out.st (b := ox) (by simp) (.int .i64 4) (.int .i64 0) (.string ⟨#[]⟩) (.slice none 0 0) (.slice (some ⟨rx, 0, none⟩) 2 2))
                have HTA := hideK (show TyAt (st5 V4 ox 0 (.int .i64 4) (.int .i64 0) (.string ⟨#[]⟩) (.slice none 0 0) (.slice (some ⟨rx, 0, none⟩) 2 2)) ox 0 (gvT t) none 0 (some ⟨rx, 0, none⟩) 2 from HZx.out.ty (gvT t) none 0 (some ⟨rx, 0, none⟩) 2)
                have HLX := hideK (show ox < (st5 V4 ox 0 (.int .i64 4) (.int .i64 0) (.string ⟨#[]⟩) (.slice none 0 0) (.slice (some ⟨rx, 0, none⟩) 2 2)).heap.size from by rw [st5_size]; exact HZx.out.lt)
                replace HZy := hideK (HZy.out.st (b' := ox) HNE.out.symm (.int .i64 4) (.int .i64 0) (.string ⟨#[]⟩) (.slice none 0 0) (.slice (some ⟨rx, 0, none⟩) 2 2))
                replace HVy := hideK (HVy.out.st (b := ox) (by simp) (.int .i64 4) (.int .i64 0) (.string ⟨#[]⟩) (.slice none 0 0) (.slice (some ⟨rx, 0, none⟩) 2 2))
                clear HVx HZx
                go_simp
                refine hK.out _ _ hSn ?_
                clear hS hK K hSn z0 z1 z2 z3 z4 f0 f1 f2 f3 f4
                intro hS
                change wpAnyH _ _ _ _ _ _ _ _ (st5 V4 ox 0 (.int .i64 4) (.int .i64 0) (.string ⟨#[]⟩) (.slice none 0 0) (.slice (some ⟨rx, 0, none⟩) 2 2))
                change CGW _ _ _ _ _ _ _ _ _ _ _ _ (st5 V4 ox 0 (.int .i64 4) (.int .i64 0) (.string ⟨#[]⟩) (.slice none 0 0) (.slice (some ⟨rx, 0, none⟩) 2 2)) at hS
                generalize st5 V4 ox 0 (.int .i64 4) (.int .i64 0) (.string ⟨#[]⟩) (.slice none 0 0) (.slice (some ⟨rx, 0, none⟩) 2 2) = V5 at *
                refine take_oneHL 11 (AllReadyH.cons rfl (fun K hK => ?_) AllReadyH.nil) (by kernel_rfl)
                obtain ⟨_, _, z0, z1, z2, z3, z4, zf⟩ := HZy.out
                have f0 := zf 0
                have f1 := zf 1
                have f2 := zf 2
                have f3 := zf 3
                have f4 := zf 4
                clear zf
                have hSn := hS.st (b := oy) HZy.out.lo (.int .i64 4) (.int .i64 0) (.string ⟨#[]⟩) (.slice none 0 0) (.slice (some ⟨ry, 0, none⟩) 2 2)
                have HTY := hideK ((HVy.out.st (b := oy) (by simp) (.int .i64 4) (.int .i64 0) (.string ⟨#[]⟩) (.slice none 0 0) (.slice (some ⟨ry, 0, none⟩) 2 2)).tyb (show TyAt (st5 V5 oy 0 (.int .i64 4) (.int .i64 0) (.string ⟨#[]⟩) (.slice none 0 0) (.slice (some ⟨ry, 0, none⟩) 2 2)) oy 0 (gvT s) none 0 (some ⟨ry, 0, none⟩) 2 from HZy.out.ty (gvT s) none 0 (some ⟨ry, 0, none⟩) 2) (by rw [st5_size]; exact HZy.out.lt))
                have HTX2 := hideK ((HTX.out.st (b := oy) (by simp) (.int .i64 4) (.int .i64 0) (.string ⟨#[]⟩) (.slice none 0 0) (.slice (some ⟨ry, 0, none⟩) 2 2)).tyb (tyAt_st (b := oy) HNE.out (.int .i64 4) (.int .i64 0) (.string ⟨#[]⟩) (.slice none 0 0) (.slice (some ⟨ry, 0, none⟩) 2 2) HTA.out) (by rw [st5_size]; exact HLX.out))
                clear HVy HZy HTX HTA HLX HOX
                go_simp
                refine hK.out _ _ hSn ?_
                clear hS hK K hSn z0 z1 z2 z3 z4 f0 f1 f2 f3 f4
                intro hS
                change wpAnyH _ _ _ _ _ _ _ _ (st5 V5 oy 0 (.int .i64 4) (.int .i64 0) (.string ⟨#[]⟩) (.slice none 0 0) (.slice (some ⟨ry, 0, none⟩) 2 2))
                change CGW _ _ _ _ _ _ _ _ _ _ _ _ (st5 V5 oy 0 (.int .i64 4) (.int .i64 0) (.string ⟨#[]⟩) (.slice none 0 0) (.slice (some ⟨ry, 0, none⟩) 2 2)) at hS
                generalize st5 V5 oy 0 (.int .i64 4) (.int .i64 0) (.string ⟨#[]⟩) (.slice none 0 0) (.slice (some ⟨ry, 0, none⟩) 2 2) = V6 at *
                refine wpAnyH_done (by kernel_rfl) ?_ _
                go_wp2_with fail
                go_meet
                exact ⟨_, _, _, _, _, _, _, _, _, _, _, _, rfl, rfl, hS, HTX2.out, HTY.out⟩
              · go_simp
                have hSn := hS.al (.cells #[.int .i64 0, .int .i64 0, .string ⟨#[]⟩, .slice none 0 0, .slice none 0 0] 25)
                have HZy := hideK (BXZ.new (be := be) hS.lt)
                have HNE := hideK (show ox ≠ V2.heap.size from by have := HZx.out.lt; omega)
                replace HZx := hideK (HZx.out.al (.cells #[.int .i64 0, .int .i64 0, .string ⟨#[]⟩, .slice none 0 0, .slice none 0 0] 25))
                replace HVy := hideK (HVy.out.box (.cells #[.int .i64 0, .int .i64 0, .string ⟨#[]⟩, .slice none 0 0, .slice none 0 0] 25))
                refine hK.out _ _ hSn ?_
                clear hS hK K hSn
                intro hS
                generalize V2.heap.size = oy at *
                generalize World.alloc V2 (.cells #[.int .i64 0, .int .i64 0, .string ⟨#[]⟩, .slice none 0 0, .slice none 0 0] 25) = V3 at *
                refine take_oneHL 2 (AllReadyH.cons rfl (fun K hK => ?_) AllReadyH.nil) (by kernel_rfl)
                go_simp
                have hSn := hS.al (.cells #[.int .i64 t.kind, .int .i64 t.so, .string t.name, .slice al t.labels.length cl, .slice ak t.kids.length ck, .int .i64 1, .int .i64 0, .string ⟨#[]⟩, .slice none 0 0, .slice none 0 0] 25)
                have HVx := hideK (tv_row hS.bl HT.out [oy, ox] (bs2 hS HZy.out HZx.out))
                replace HZx := hideK (HZx.out.al (.cells #[.int .i64 t.kind, .int .i64 t.so, .string t.name, .slice al t.labels.length cl, .slice ak t.kids.length ck, .int .i64 1, .int .i64 0, .string ⟨#[]⟩, .slice none 0 0, .slice none 0 0] 25))
                replace HZy := hideK (HZy.out.al (.cells #[.int .i64 t.kind, .int .i64 t.so, .string t.name, .slice al t.labels.length cl, .slice ak t.kids.length ck, .int .i64 1, .int .i64 0, .string ⟨#[]⟩, .slice none 0 0, .slice none 0 0] 25))
                replace HVy := hideK (HVy.out.al (.cells #[.int .i64 t.kind, .int .i64 t.so, .string t.name, .slice al t.labels.length cl, .slice ak t.kids.length ck, .int .i64 1, .int .i64 0, .string ⟨#[]⟩, .slice none 0 0, .slice none 0 0] 25))
                refine hK.out _ _ hSn ?_
                clear hS hK K hSn
                intro hS
                generalize V3.heap.size = rx at *
                generalize World.alloc V3 (.cells #[.int .i64 t.kind, .int .i64 t.so, .string t.name, .slice al t.labels.length cl, .slice ak t.kids.length ck, .int .i64 1, .int .i64 0, .string ⟨#[]⟩, .slice none 0 0, .slice none 0 0] 25) = V4 at *
                refine wpAnyH_take (i := 3) (v := (.agg #[.int .i64 4, .int .i64 0, .string ⟨#[]⟩, .slice none 0 0, .slice (some ⟨rx, 0, none⟩) 2 2])) rfl (by kernel_rfl) (by kernel_rfl) (by kernel_rfl) (fun _ _ _ h => h) (Or.inl ⟨by rfl, fun W hW => by go_simp⟩) hS ?_
                refine take_oneHL 10 (AllReadyH.cons rfl (fun K hK => ?_) AllReadyH.nil) (by kernel_rfl)
                obtain ⟨_, _, z0, z1, z2, z3, z4, zf⟩ := HZx.out
                have f0 := zf 0
                have f1 := zf 1
                have f2 := zf 2
                have f3 := zf 3
                have f4 := zf 4
                clear zf
                have hSn := hS.st (b := ox) HZx.out.lo (.int .i64 4) (.int .i64 0) (.string ⟨#[]⟩) (.slice none 0 0) (.slice (some ⟨rx, 0, none⟩) 2 2)
                have HOX := hideK HZx.out.lo
                have HTX := hideK (HVx.out.st (b := ox) (by simp) (.int .i64 4) (.int .i64 0) (.string ⟨#[]⟩) (.slice none 0 0) (.slice (some ⟨rx, 0, none⟩) 2 2))
                have HTA := hideK (show TyAt (st5 V4 ox 0 (.int .i64 4) (.int .i64 0) (.string ⟨#[]⟩) (.slice none 0 0) (.slice (some ⟨rx, 0, none⟩) 2 2)) ox 0 (gvT t) none 0 (some ⟨rx, 0, none⟩) 2 from HZx.out.ty (gvT t) none 0 (some ⟨rx, 0, none⟩) 2)
                have HLX := hideK (show ox < (st5 V4 ox 0 (.int .i64 4) (.int .i64 0) (.string ⟨#[]⟩) (.slice none 0 0) (.slice (some ⟨rx, 0, none⟩) 2 2)).heap.size from by rw [st5_size]; exact HZx.out.lt)
                replace HZy := hideK (HZy.out.st (b' := ox) HNE.out.symm (.int .i64 4) (.int .i64 0) (.string ⟨#[]⟩) (.slice none 0 0) (.slice (some ⟨rx, 0, none⟩) 2 2))
                replace HVy := hideK (HVy.out.st (b := ox) (by simp) (.int .i64 4) (.int .i64 0) (.string ⟨#[]⟩) (.slice none 0 0) (.slice (some ⟨rx, 0, none⟩) 2 2))
                clear HVx HZx
                go_simp
                refine hK.out _ _ hSn ?_
                clear hS hK K hSn z0 z1 z2 z3 z4 f0 f1 f2 f3 f4
                intro hS
                change wpAnyH _ _ _ _ _ _ _ _ (st5 V4 ox 0 (.int .i64 4) (.int .i64 0) (.string ⟨#[]⟩) (.slice none 0 0) (.slice (some ⟨rx, 0, none⟩) 2 2))
                change CGW _ _ _ _ _ _ _ _ _ _ _ _ (st5 V4 ox 0 (.int .i64 4) (.int .i64 0) (.string ⟨#[]⟩) (.slice none 0 0) (.slice (some ⟨rx, 0, none⟩) 2 2)) at hS
                generalize st5 V4 ox 0 (.int .i64 4) (.int .i64 0) (.string ⟨#[]⟩) (.slice none 0 0) (.slice (some ⟨rx, 0, none⟩) 2 2) = V5 at *
                refine take_oneHL 11 (AllReadyH.cons rfl (fun K hK => ?_) AllReadyH.nil) (by kernel_rfl)
                obtain ⟨_, _, z0, z1, z2, z3, z4, zf⟩ := HZy.out
                have f0 := zf 0
                have f1 := zf 1
                have f2 := zf 2
                have f3 := zf 3
                have f4 := zf 4
                clear zf
                have hSn := hS.st (b := oy) HZy.out.lo (.int .i64 4) (.int .i64 0) (.string ⟨#[]⟩) (.slice none 0 0) (.slice (some ⟨ry, 0, none⟩) 2 2)
                have HTY := hideK ((HVy.out.st (b := oy) (by simp) (.int .i64 4) (.int .i64 0) (.string ⟨#[]⟩) (.slice none 0 0) (.slice (some ⟨ry, 0, none⟩) 2 2)).tyb (show TyAt (st5 V5 oy 0 (.int .i64 4) (.int .i64 0) (.string ⟨#[]⟩) (.slice none 0 0) (.slice (some ⟨ry, 0, none⟩) 2 2)) oy 0 (gvT s) none 0 (some ⟨ry, 0, none⟩) 2 from HZy.out.ty (gvT s) none 0 (some ⟨ry, 0, none⟩) 2) (by rw [st5_size]; exact HZy.out.lt))
                have HTX2 := hideK ((HTX.out.st (b := oy) (by simp) (.int .i64 4) (.int .i64 0) (.string ⟨#[]⟩) (.slice none 0 0) (.slice (some ⟨ry, 0, none⟩) 2 2)).tyb (tyAt_st (b := oy) HNE.out (.int .i64 4) (.int .i64 0) (.string ⟨#[]⟩) (.slice none 0 0) (.slice (some ⟨ry, 0, none⟩) 2 2) HTA.out) (by rw [st5_size]; exact HLX.out))
                clear HVy HZy HTX HTA HLX HOX
                go_simp
                refine hK.out _ _ hSn ?_
                clear hS hK K hSn z0 z1 z2 z3 z4 f0 f1 f2 f3 f4
                intro hS
                change wpAnyH _ _ _ _ _ _ _ _ (st5 V5 oy 0 (.int .i64 4) (.int .i64 0) (.string ⟨#[]⟩) (.slice none 0 0) (.slice (some ⟨ry, 0, none⟩) 2 2))
                change CGW _ _ _ _ _ _ _ _ _ _ _ _ (st5 V5 oy 0 (.int .i64 4) (.int .i64 0) (.string ⟨#[]⟩) (.slice none 0 0) (.slice (some ⟨ry, 0, none⟩) 2 2)) at hS
                generalize st5 V5 oy 0 (.int .i64 4) (.int .i64 0) (.string ⟨#[]⟩) (.slice none 0 0) (.slice (some ⟨ry, 0, none⟩) 2 2) = V6 at *
                refine wpAnyH_done (by kernel_rfl) ?_ _
                go_wp2_with fail
                go_meet
                exact ⟨_, _, _, _, _, _, _, _, _, _, _, _, rfl, rfl, hS, HTX2.out, HTY.out⟩
            · go_simp
              have hSn := hS.al (.cells #[.int .i64 0, .int .i64 0, .string ⟨#[]⟩, .slice none 0 0, .slice none 0 0] 25)
              have HZy := hideK (BXZ.new (be := be) hS.lt)
              have HNE := hideK (show ox ≠ V1.heap.size from by have := HZx.out.lt; omega)
              replace HZx := hideK (HZx.out.al (.cells #[.int .i64 0, .int .i64 0, .string ⟨#[]⟩, .slice none 0 0, .slice none 0 0] 25))
              refine hK.out _ _ hSn ?_
              clear hS hK K hSn
              intro hS
              generalize V1.heap.size = oy at *
              generalize World.alloc V1 (.cells #[.int .i64 0, .int .i64 0, .string ⟨#[]⟩, .slice none 0 0, .slice none 0 0] 25) = V2 at *
              refine wpAnyH_ready (rs := [2, 6]) (by kernel_rfl) (by simp) (AllReadyH.cons rfl (fun K hK => ?_) (AllReadyH.cons rfl (fun K hK => ?_) AllReadyH.nil))
              · go_simp
                have hSn := hS.al (.cells #[.int .i64 t.kind, .int .i64 t.so, .string t.name, .slice al t.labels.length cl, .slice ak t.kids.length ck, .int .i64 1, .int .i64 0, .string ⟨#[]⟩, .slice none 0 0, .slice none 0 0] 25)
                have HVx := hideK (tv_row hS.bl HT.out [oy, ox] (bs2 hS HZy.out HZx.out))
                replace HZx := hideK (HZx.out.al (.cells #[.int .i64 t.kind, .int .i64 t.so, .string t.name, .slice al t.labels.length cl, .slice ak t.kids.length ck, .int .i64 1, .int .i64 0, .string ⟨#[]⟩, .slice none 0 0, .slice none 0 0] 25))
                replace HZy := hideK (HZy.out.al (.cells #[.int .i64 t.kind, .int .i64 t.so, .string t.name, .slice al t.labels.length cl, .slice ak t.kids.length ck, .int .i64 1, .int .i64 0, .string ⟨#[]⟩, .slice none 0 0, .slice none 0 0] 25))
                refine hK.out _ _ hSn ?_
                clear hS hK K hSn
                intro hS
                generalize V2.heap.size = rx at *
                generalize World.alloc V2 (.cells #[.int .i64 t.kind, .int .i64 t.so, .string t.name, .slice al t.labels.length cl, .slice ak t.kids.length ck, .int .i64 1, .int .i64 0, .string ⟨#[]⟩, .slice none 0 0, .slice none 0 0] 25) = V3 at *
                refine wpAnyH_take (i := 3) (v := (.agg #[.int .i64 4, .int .i64 0, .string ⟨#[]⟩, .slice none 0 0, .slice (some ⟨rx, 0, none⟩) 2 2])) rfl (by kernel_rfl) (by kernel_rfl) (by kernel_rfl) (fun _ _ _ h => h) (Or.inl ⟨by rfl, fun W hW => by go_simp⟩) hS ?_
                refine wpAnyH_ready (rs := [6, 10]) (by kernel_rfl) (by simp) (AllReadyH.cons rfl (fun K hK => ?_) (AllReadyH.cons rfl (fun K hK => ?_) AllReadyH.nil))
                · go_simp
                  have hSn := hS.al (.cells #[.int .i64 s.kind, .int .i64 s.so, .string s.name, .slice sal s.labels.length scl, .slice sak s.kids.length sck, .int .i64 1, .int .i64 0, .string ⟨#[]⟩, .slice none 0 0, .slice none 0 0] 25)
                  have HVy := hideK (tv_row hS.bl HS.out [oy, ox] (bs2 hS HZy.out HZx.out))
                  replace HZx := hideK (HZx.out.al (.cells #[.int .i64 s.kind, .int .i64 s.so, .string s.name, .slice sal s.labels.length scl, .slice sak s.kids.length sck, .int .i64 1, .int .i64 0, .string ⟨#[]⟩, .slice none 0 0, .slice none 0 0] 25))
                  replace HZy := hideK (HZy.out.al (.cells #[.int .i64 s.kind, .int .i64 s.so, .string s.name, .slice sal s.labels.length scl, .slice sak s.kids.length sck, .int .i64 1, .int .i64 0, .string ⟨#[]⟩, .slice none 0 0, .slice none 0 0] 25))
                  replace HVx := hideK (HVx.out.al (.cells #[.int .i64 s.kind, .int .i64 s.so, .string s.name, .slice sal s.labels.length scl, .slice sak s.kids.length sck, .int .i64 1, .int .i64 0, .string ⟨#[]⟩, .slice none 0 0, .slice none 0 0] 25))
                  refine hK.out _ _ hSn ?_
                  clear hS hK K hSn
                  intro hS
                  generalize V3.heap.size = ry at *
                  generalize World.alloc V3 (.cells #[.int .i64 s.kind, .int .i64 s.so, .string s.name, .slice sal s.labels.length scl, .slice sak s.kids.length sck, .int .i64 1, .int .i64 0, .string ⟨#[]⟩, .slice none 0 0, .slice none 0 0] 25) = V4 at *
                  refine wpAnyH_take (i := 7) (v := (.agg #[.int .i64 4, .int .i64 0, .string ⟨#[]⟩, .slice none 0 0, .slice (some ⟨ry, 0, none⟩) 2 2])) rfl (by kernel_rfl) (by kernel_rfl) (by kernel_rfl) (fun _ _ _ h => h) (Or.inl ⟨by rfl, fun W hW => by go_simp⟩) hS ?_
                  refine take_oneHL 10 (AllReadyH.cons rfl (fun K hK => ?_) AllReadyH.nil) (by kernel_rfl)
                  obtain ⟨_, _, z0, z1, z2, z3, z4, zf⟩ := HZx.out
                  have f0 := zf 0
                  have f1 := zf 1
                  have f2 := zf 2
                  have f3 := zf 3
                  have f4 := zf 4
                  clear zf
                  have hSn := hS.st (b := ox) HZx.out.lo (.int .i64 4) (.int .i64 0) (.string ⟨#[]⟩) (.slice none 0 0) (.slice (some ⟨rx, 0, none⟩) 2 2)
                  have HOX := hideK HZx.out.lo
                  have HTX := hideK (HVx.out.st (b := ox) (by simp) (.int .i64 4) (.int .i64 0) (.string ⟨#[]⟩) (.slice none 0 0) (.slice (some ⟨rx, 0, none⟩) 2 2))
                  have HTA := hideK (show TyAt (st5 V4 ox 0 (.int .i64 4) (.int .i64 0) (.string ⟨#[]⟩) (.slice none 0 0) (.slice (some ⟨rx, 0, none⟩) 2 2)) ox 0 (gvT t) none 0 (some ⟨rx, 0, none⟩) 2 from HZx.out.ty (gvT t) none 0 (some ⟨rx, 0, none⟩) 2)
                  have HLX := hideK (show ox < (st5 V4 ox 0 (.int .i64 4) (.int .i64 0) (.string ⟨#[]⟩) (.slice none 0 0) (.slice (some ⟨rx, 0, none⟩) 2 2)).heap.size from by rw [st5_size]; exact HZx.out.lt)
                  replace HZy := hideK (HZy.out.st (b' := ox) HNE.out.symm (.int .i64 4) (.int .i64 0) (.string ⟨#[]⟩) (.slice none 0 0) (.slice (some ⟨rx, 0, none⟩) 2 2))
                  replace HVy := hideK (HVy.out.st (b := ox) (by simp) (.int .i64 4) (.int .i64 0) (.string ⟨#[]⟩) (.slice none 0 0) (.slice (some ⟨rx, 0, none⟩) 2 2))
                  clear HVx HZx
                  go_simp
                  refine hK.out _ _ hSn ?_
                  clear hS hK K hSn z0 z1 z2 z3 z4 f0 f1 f2 f3 f4
                  intro hS
                  change wpAnyH _ _ _ _ _ _ _ _ (st5 V4 ox 0 (.int .i64 4) (.int .i64 0) (.string ⟨#[]⟩) (.slice none 0 0) (.slice (some ⟨rx, 0, none⟩) 2 2))
                  change CGW _ _ _ _ _ _ _ _ _ _ _ _ (st5 V4 ox 0 (.int .i64 4) (.int .i64 0) (.string ⟨#[]⟩) (.slice none 0 0) (.slice (some ⟨rx, 0, none⟩) 2 2)) at hS
                  generalize st5 V4 ox 0 (.int .i64 4) (.int .i64 0) (.string ⟨#[]⟩) (.slice none 0 0) (.slice (some ⟨rx, 0, none⟩) 2 2) = V5 at *
                  refine take_oneHL 11 (AllReadyH.cons rfl (fun K hK => ?_) AllReadyH.nil) (by kernel_rfl)
                  obtain ⟨_, _, z0, z1, z2, z3, z4, zf⟩ := HZy.out
                  have f0 := zf 0
                  have f1 := zf 1
                  have f2 := zf 2
                  have f3 := zf 3
                  have f4 := zf 4
                  clear zf
                  have hSn := hS.st (b := oy) HZy.out.lo (.int .i64 4) (.int .i64 0) (.string ⟨#[]⟩) (.slice none 0 0) (.slice (some ⟨ry, 0, none⟩) 2 2)
                  have HTY := hideK ((HVy.out.st (b := oy) (by simp) (.int .i64 4) (.int .i64 0) (.string ⟨#[]⟩) (.slice none 0 0) (.slice (some ⟨ry, 0, none⟩) 2 2)).tyb (show TyAt (st5 V5 oy 0 (.int .i64 4) (.int .i64 0) (.string ⟨#[]⟩) (.slice none 0 0) (.slice (some ⟨ry, 0, none⟩) 2 2)) oy 0 (gvT s) none 0 (some ⟨ry, 0, none⟩) 2 from HZy.out.ty (gvT s) none 0 (some ⟨ry, 0, none⟩) 2) (by rw [st5_size]; exact HZy.out.lt))
                  have HTX2 := hideK ((HTX.out.st (b := oy) (by simp) (.int .i64 4) (.int .i64 0) (.string ⟨#[]⟩) (.slice none 0 0) (.slice (some ⟨ry, 0, none⟩) 2 2)).tyb (tyAt_st (b := oy) HNE.out (.int .i64 4) (.int .i64 0) (.string ⟨#[]⟩) (.slice none 0 0) (.slice (some ⟨ry, 0, none⟩) 2 2) HTA.out) (by rw [st5_size]; exact HLX.out))
                  clear HVy HZy HTX HTA HLX HOX
                  go_simp
                  refine hK.out _ _ hSn ?_
                  clear hS hK K hSn z0 z1 z2 z3 z4 f0 f1 f2 f3 f4
                  intro hS
                  change wpAnyH _ _ _ _ _ _ _ _ (st5 V5 oy 0 (.int .i64 4) (.int .i64 0) (.string ⟨#[]⟩) (.slice none 0 0) (.slice (some ⟨ry, 0, none⟩) 2 2))
                  change CGW _ _ _ _ _ _ _ _ _ _ _ _ (st5 V5 oy 0 (.int .i64 4) (.int .i64 0) (.string ⟨#[]⟩) (.slice none 0 0) (.slice (some ⟨ry, 0, none⟩) 2 2)) at hS
                  generalize st5 V5 oy 0 (.int .i64 4) (.int .i64 0) (.string ⟨#[]⟩) (.slice none 0 0) (.slice (some ⟨ry, 0, none⟩) 2 2) = V6 at *
                  refine wpAnyH_done (by kernel_rfl) ?_ _
                  go_wp2_with fail
                  go_meet
                  exact ⟨_, _, _, _, _, _, _, _, _, _, _, _, rfl, rfl, hS, HTX2.out, HTY.out⟩
                · obtain ⟨_, _, z0, z1, z2, z3, z4, zf⟩ := HZx.out
                  have f0 := zf 0
                  have f1 := zf 1
                  have f2 := zf 2
                  have f3 := zf 3
                  have f4 := zf 4
                  clear zf
                  have hSn := hS.st (b := ox) HZx.out.lo (.int .i64 4) (.int .i64 0) (.string ⟨#[]⟩) (.slice none 0 0) (.slice (some ⟨rx, 0, none⟩) 2 2)
                  have HOX := hideK HZx.out.lo
                  have HTX := hideK (HVx.out.st (b := ox) (by simp) (.int .i64 4) (.int .i64 0) (.string ⟨#[]⟩) (.slice none 0 0) (.slice (some ⟨rx, 0, none⟩) 2 2))
                  have HTA := hideK (show TyAt (st5 V3 ox 0 (.int .i64 4) (.int .i64 0) (.string ⟨#[]⟩) (.slice none 0 0) (.slice (some ⟨rx, 0, none⟩) 2 2)) ox 0 (gvT t) none 0 (some ⟨rx, 0, none⟩) 2 from HZx.out.ty (gvT t) none 0 (some ⟨rx, 0, none⟩) 2)
                  have HLX := hideK (show ox < (st5 V3 ox 0 (.int .i64 4) (.int .i64 0) (.string ⟨#[]⟩) (.slice none 0 0) (.slice (some ⟨rx, 0, none⟩) 2 2)).heap.size from by rw [st5_size]; exact HZx.out.lt)
                  replace HZy := hideK (HZy.out.st (b' := ox) HNE.out.symm (.int .i64 4) (.int .i64 0) (.string ⟨#[]⟩) (.slice none 0 0) (.slice (some ⟨rx, 0, none⟩) 2 2))
                  clear HVx HZx
                  go_simp
                  refine hK.out _ _ hSn ?_
                  clear hS hK K hSn z0 z1 z2 z3 z4 f0 f1 f2 f3 f4
                  intro hS
                  change wpAnyH _ _ _ _ _ _ _ _ (st5 V3 ox 0 (.int .i64 4) (.int .i64 0) (.string ⟨#[]⟩) (.slice none 0 0) (.slice (some ⟨rx, 0, none⟩) 2 2))
                  change CGW _ _ _ _ _ _ _ _ _ _ _ _ (st5 V3 ox 0 (.int .i64 4) (.int .i64 0) (.string ⟨#[]⟩) (.slice none 0 0) (.slice (some ⟨rx, 0, none⟩) 2 2)) at hS
                  generalize st5 V3 ox 0 (.int .i64 4) (.int .i64 0) (.string ⟨#[]⟩) (.slice none 0 0) (.slice (some ⟨rx, 0, none⟩) 2 2) = V4 at *
                  refine take_oneHL 6 (AllReadyH.cons rfl (fun K hK => ?_) AllReadyH.nil) (by kernel_rfl)
                  go_simp
                  have hSn := hS.al (.cells #[.int .i64 s.kind, .int .i64 s.so, .string s.name, .slice sal s.labels.length scl, .slice sak s.kids.length sck, .int .i64 1, .int .i64 0, .string ⟨#[]⟩, .slice none 0 0, .slice none 0 0] 25)
                  have HVy := hideK (tv_row hS.bl HS.out [oy, ox] (bsB hS HOX.out HLX.out HZy.out))
                  replace HZy := hideK (HZy.out.al (.cells #[.int .i64 s.kind, .int .i64 s.so, .string s.name, .slice sal s.labels.length scl, .slice sak s.kids.length sck, .int .i64 1, .int .i64 0, .string ⟨#[]⟩, .slice none 0 0, .slice none 0 0] 25))
                  replace HTX := hideK (HTX.out.al (.cells #[.int .i64 s.kind, .int .i64 s.so, .string s.name, .slice sal s.labels.length scl, .slice sak s.kids.length sck, .int .i64 1, .int .i64 0, .string ⟨#[]⟩, .slice none 0 0, .slice none 0 0] 25))
                  replace HTA := hideK (HTA.out.keep ((Below.refl _ _).alloc (Nat.le_refl _) (.cells #[.int .i64 s.kind, .int .i64 s.so, .string s.name, .slice sal s.labels.length scl, .slice sak s.kids.length sck, .int .i64 1, .int .i64 0, .string ⟨#[]⟩, .slice none 0 0, .slice none 0 0] 25)) HLX.out)
                  replace HLX := hideK (show ox < (World.alloc V4 (.cells #[.int .i64 s.kind, .int .i64 s.so, .string s.name, .slice sal s.labels.length scl, .slice sak s.kids.length sck, .int .i64 1, .int .i64 0, .string ⟨#[]⟩, .slice none 0 0, .slice none 0 0] 25)).heap.size from by have := HLX.out; simp; omega)
                  refine hK.out _ _ hSn ?_
                  clear hS hK K hSn
                  intro hS
                  generalize V4.heap.size = ry at *
                  generalize World.alloc V4 (.cells #[.int .i64 s.kind, .int .i64 s.so, .string s.name, .slice sal s.labels.length scl, .slice sak s.kids.length sck, .int .i64 1, .int .i64 0, .string ⟨#[]⟩, .slice none 0 0, .slice none 0 0] 25) = V5 at *
                  refine wpAnyH_take (i := 7) (v := (.agg #[.int .i64 4, .int .i64 0, .string ⟨#[]⟩, .slice none 0 0, .slice (some ⟨ry, 0, none⟩) 2 2])) rfl (by kernel_rfl) (by kernel_rfl) (by kernel_rfl) (fun _ _ _ h => h) (Or.inl ⟨by rfl, fun W hW => by go_simp⟩) hS ?_
                  refine take_oneHL 11 (AllReadyH.cons rfl (fun K hK => ?_) AllReadyH.nil) (by kernel_rfl)
                  obtain ⟨_, _, z0, z1, z2, z3, z4, zf⟩ := HZy.out
                  have f0 := zf 0
                  have f1 := zf 1
                  have f2 := zf 2
                  have f3 := zf 3
                  have f4 := zf 4
                  clear zf
                  have hSn := hS.st (b := oy) HZy.out.lo (.int .i64 4) (.int .i64 0) (.string ⟨#[]⟩) (.slice none 0 0) (.slice (some ⟨ry, 0, none⟩) 2 2)
                  have HTY := hideK ((HVy.out.st (b := oy) (by simp) (.int .i64 4) (.int .i64 0) (.string ⟨#[]⟩) (.slice none 0 0) (.slice (some ⟨ry, 0, none⟩) 2 2)).tyb (show TyAt (st5 V5 oy 0 (.int .i64 4) (.int .i64 0) (.string ⟨#[]⟩) (.slice none 0 0) (.slice (some ⟨ry, 0, none⟩) 2 2)) oy 0 (gvT s) none 0 (some ⟨ry, 0, none⟩) 2 from HZy.out.ty (gvT s) none 0 (some ⟨ry, 0, none⟩) 2) (by rw [st5_size]; exact HZy.out.lt))
                  have HTX2 := hideK ((HTX.out.st (b := oy) (by simp) (.int .i64 4) (.int .i64 0) (.string ⟨#[]⟩) (.slice none 0 0) (.slice (some ⟨ry, 0, none⟩) 2 2)).tyb (tyAt_st (b := oy) HNE.out (.int .i64 4) (.int .i64 0) (.string ⟨#[]⟩) (.slice none 0 0) (.slice (some ⟨ry, 0, none⟩) 2 2) HTA.out) (by rw [st5_size]; exact HLX.out))
                  clear HVy HZy HTX HTA HLX HOX
                  go_simp
                  refine hK.out _ _ hSn ?_
                  clear hS hK K hSn z0 z1 z2 z3 z4 f0 f1 f2 f3 f4
                  intro hS
                  change wpAnyH _ _ _ _ _ _ _ _ (st5 V5 oy 0 (.int .i64 4) (.int .i64 0) (.string ⟨#[]⟩) (.slice none 0 0) (.slice (some ⟨ry, 0, none⟩) 2 2))
                  change CGW _ _ _ _ _ _ _ _ _ _ _ _ (st5 V5 oy 0 (.int .i64 4) (.int .i64 0) (.string ⟨#[]⟩) (.slice none 0 0) (.slice (some ⟨ry, 0, none⟩) 2 2)) at hS
                  generalize st5 V5 oy 0 (.int .i64 4) (.int .i64 0) (.string ⟨#[]⟩) (.slice none 0 0) (.slice (some ⟨ry, 0, none⟩) 2 2) = V6 at *
                  refine wpAnyH_done (by kernel_rfl) ?_ _
                  go_wp2_with fail
                  go_meet
                  exact ⟨_, _, _, _, _, _, _, _, _, _, _, _, rfl, rfl, hS, HTX2.out, HTY.out⟩
              · go_simp
                have hSn := hS.al (.cells #[.int .i64 s.kind, .int .i64 s.so, .string s.name, .slice sal s.labels.length scl, .slice sak s.kids.length sck, .int .i64 1, .int .i64 0, .string ⟨#[]⟩, .slice none 0 0, .slice none 0 0] 25)
                have HVy := hideK (tv_row hS.bl HS.out [oy, ox] (bs2 hS HZy.out HZx.out))
                replace HZx := hideK (HZx.out.al (.cells #[.int .i64 s.kind, .int .i64 s.so, .string s.name, .slice sal s.labels.length scl, .slice sak s.kids.length sck, .int .i64 1, .int .i64 0, .string ⟨#[]⟩, .slice none 0 0, .slice none 0 0] 25))
                replace HZy := hideK (HZy.out.al (.cells #[.int .i64 s.kind, .int .i64 s.so, .string s.name, .slice sal s.labels.length scl, .slice sak s.kids.length sck, .int .i64 1, .int .i64 0, .string ⟨#[]⟩, .slice none 0 0, .slice none 0 0] 25))
                refine hK.out _ _ hSn ?_
                clear hS hK K hSn
                intro hS
                generalize V2.heap.size = ry at *
                generalize World.alloc V2 (.cells #[.int .i64 s.kind, .int .i64 s.so, .string s.name, .slice sal s.labels.length scl, .slice sak s.kids.length sck, .int .i64 1, .int .i64 0, .string ⟨#[]⟩, .slice none 0 0, .slice none 0 0] 25) = V3 at *
                refine wpAnyH_take (i := 7) (v := (.agg #[.int .i64 4, .int .i64 0, .string ⟨#[]⟩, .slice none 0 0, .slice (some ⟨ry, 0, none⟩) 2 2])) rfl (by kernel_rfl) (by kernel_rfl) (by kernel_rfl) (fun _ _ _ h => h) (Or.inl ⟨by rfl, fun W hW => by go_simp⟩) hS ?_
                refine take_oneHL 2 (AllReadyH.cons rfl (fun K hK => ?_) AllReadyH.nil) (by kernel_rfl)
                go_simp
                have hSn := hS.al (.cells #[.int .i64 t.kind, .int .i64 t.so, .string t.name, .slice al t.labels.length cl, .slice ak t.kids.length ck, .int .i64 1, .int .i64 0, .string ⟨#[]⟩, .slice none 0 0, .slice none 0 0] 25)
                have HVx := hideK (tv_row hS.bl HT.out [oy, ox] (bs2 hS HZy.out HZx.out))
                replace HZx := hideK (HZx.out.al (.cells #[.int .i64 t.kind, .int .i64 t.so, .string t.name, .slice al t.labels.length cl, .slice ak t.kids.length ck, .int .i64 1, .int .i64 0, .string ⟨#[]⟩, .slice none 0 0, .slice none 0 0] 25))
                replace HZy := hideK (HZy.out.al (.cells #[.int .i64 t.kind, .int .i64 t.so, .string t.name, .slice al t.labels.length cl, .slice ak t.kids.length ck, .int .i64 1, .int .i64 0, .string ⟨#[]⟩, .slice none 0 0, .slice none 0 0] 25))
                replace HVy := hideK (HVy.out.al (.cells #[.int .i64 t.kind, .int .i64 t.so, .string t.name, .slice al t.labels.length cl, .slice ak t.kids.length ck, .int .i64 1, .int .i64 0, .string ⟨#[]⟩, .slice none 0 0, .slice none 0 0] 25))
                refine hK.out _ _ hSn ?_
                clear hS hK K hSn
                intro hS
                generalize V3.heap.size = rx at *
                generalize World.alloc V3 (.cells #[.int .i64 t.kind, .int .i64 t.so, .string t.name, .slice al t.labels.length cl, .slice ak t.kids.length ck, .int .i64 1, .int .i64 0, .string ⟨#[]⟩, .slice none 0 0, .slice none 0 0] 25) = V4 at *
                refine wpAnyH_take (i := 3) (v := (.agg #[.int .i64 4, .int .i64 0, .string ⟨#[]⟩, .slice none 0 0, .slice (some ⟨rx, 0, none⟩) 2 2])) rfl (by kernel_rfl) (by kernel_rfl) (by kernel_rfl) (fun _ _ _ h => h) (Or.inl ⟨by rfl, fun W hW => by go_simp⟩) hS ?_
                refine take_oneHL 10 (AllReadyH.cons rfl (fun K hK => ?_) AllReadyH.nil) (by kernel_rfl)
                obtain ⟨_, _, z0, z1, z2, z3, z4, zf⟩ := HZx.out
                have f0 := zf 0
                have f1 := zf 1
                have f2 := zf 2
                have f3 := zf 3
                have f4 := zf 4
                clear zf
                have hSn := hS.st (b := ox) HZx.out.lo (.int .i64 4) (.int .i64 0) (.string ⟨#[]⟩) (.slice none 0 0) (.slice (some ⟨rx, 0, none⟩) 2 2)
                have HOX := hideK HZx.out.lo
                have HTX := hideK (HVx.out.st (b := ox) (by simp) (.int .i64 4) (.int .i64 0) (.string ⟨#[]⟩) (.slice none 0 0) (.slice (some ⟨rx, 0, none⟩) 2 2))
                have HTA := hideK (show TyAt (st5 V4 ox 0 (.int .i64 4) (.int .i64 0) (.string ⟨#[]⟩) (.slice none 0 0) (.slice (some ⟨rx, 0, none⟩) 2 2)) ox 0 (gvT t) none 0 (some ⟨rx, 0, none⟩) 2 from HZx.out.ty (gvT t) none 0 (some ⟨rx, 0, none⟩) 2)
                have HLX := hideK (show ox < (st5 V4 ox 0 (.int .i64 4) (.int .i64 0) (.string ⟨#[]⟩) (.slice none 0 0) (.slice (some ⟨rx, 0, none⟩) 2 2)).heap.size from by rw [st5_size]; exact HZx.out.lt)
                replace HZy := hideK (HZy.out.st (b' := ox) HNE.out.symm (.int .i64 4) (.int .i64 0) (.string ⟨#[]⟩) (.slice none 0 0) (.slice (some ⟨rx, 0, none⟩) 2 2))
                replace HVy := hideK (HVy.out.st (b := ox) (by simp) (.int .i64 4) (.int .i64 0) (.string ⟨#[]⟩) (.slice none 0 0) (.slice (some ⟨rx, 0, none⟩) 2 2))
                clear HVx HZx
                go_simp
                refine hK.out _ _ hSn ?_
                clear hS hK K hSn z0 z1 z2 z3 z4 f0 f1 f2 f3 f4
                intro hS
                change wpAnyH _ _ _ _ _ _ _ _ (st5 V4 ox 0 (.int .i64 4) (.int .i64 0) (.string ⟨#[]⟩) (.slice none 0 0) (.slice (some ⟨rx, 0, none⟩) 2 2))
                change CGW _ _ _ _ _ _ _ _ _ _ _ _ (st5 V4 ox 0 (.int .i64 4) (.int .i64 0) (.string ⟨#[]⟩) (.slice none 0 0) (.slice (some ⟨rx, 0, none⟩) 2 2)) at hS
                generalize st5 V4 ox 0 (.int .i64 4) (.int .i64 0) (.string ⟨#[]⟩) (.slice none 0 0) (.slice (some ⟨rx, 0, none⟩) 2 2) = V5 at *
                refine take_oneHL 11 (AllReadyH.cons rfl (fun K hK => ?_) AllReadyH.nil) (by kernel_rfl)
                obtain ⟨_, _, z0, z1, z2, z3, z4, zf⟩ := HZy.out
                have f0 := zf 0
                have f1 := zf 1
                have f2 := zf 2
                have f3 := zf 3
                have f4 := zf 4
                clear zf
                have hSn := hS.st (b := oy) HZy.out.lo (.int .i64 4) (.int .i64 0) (.string ⟨#[]⟩) (.slice none 0 0) (.slice (some ⟨ry, 0, none⟩) 2 2)
                have HTY := hideK ((HVy.out.st (b := oy) (by simp) (.int .i64 4) (.int .i64 0) (.string ⟨#[]⟩) (.slice none 0 0) (.slice (some ⟨ry, 0, none⟩) 2 2)).tyb (show TyAt (st5 V5 oy 0 (.int .i64 4) (.int .i64 0) (.string ⟨#[]⟩) (.slice none 0 0) (.slice (some ⟨ry, 0, none⟩) 2 2)) oy 0 (gvT s) none 0 (some ⟨ry, 0, none⟩) 2 from HZy.out.ty (gvT s) none 0 (some ⟨ry, 0, none⟩) 2) (by rw [st5_size]; exact HZy.out.lt))
                have HTX2 := hideK ((HTX.out.st (b := oy) (by simp) (.int .i64 4) (.int .i64 0) (.string ⟨#[]⟩) (.slice none 0 0) (.slice (some ⟨ry, 0, none⟩) 2 2)).tyb (tyAt_st (b := oy) HNE.out (.int .i64 4) (.int .i64 0) (.string ⟨#[]⟩) (.slice none 0 0) (.slice (some ⟨ry, 0, none⟩) 2 2) HTA.out) (by rw [st5_size]; exact HLX.out))
                clear HVy HZy HTX HTA HLX HOX
                go_simp
                refine hK.out _ _ hSn ?_
                clear hS hK K hSn z0 z1 z2 z3 z4 f0 f1 f2 f3 f4
                intro hS
                change wpAnyH _ _ _ _ _ _ _ _ (st5 V5 oy 0 (.int .i64 4) (.int .i64 0) (.string ⟨#[]⟩) (.slice none 0 0) (.slice (some ⟨ry, 0, none⟩) 2 2))
                change CGW _ _ _ _ _ _ _ _ _ _ _ _ (st5 V5 oy 0 (.int .i64 4) (.int .i64 0) (.string ⟨#[]⟩) (.slice none 0 0) (.slice (some ⟨ry, 0, none⟩) 2 2)) at hS
                generalize st5 V5 oy 0 (.int .i64 4) (.int .i64 0) (.string ⟨#[]⟩) (.slice none 0 0) (.slice (some ⟨ry, 0, none⟩) 2 2) = V6 at *
                refine wpAnyH_done (by kernel_rfl) ?_ _
                go_wp2_with fail
                go_meet
                exact ⟨_, _, _, _, _, _, _, _, _, _, _, _, rfl, rfl, hS, HTX2.out, HTY.out⟩
          · go_simp
            have hSn := hS.al (.cells #[.int .i64 0, .int .i64 0, .string ⟨#[]⟩, .slice none 0 0, .slice none 0 0] 25)
            have HZy := hideK (BXZ.new (be := be) hS.lt)
            refine hK.out _ _ hSn ?_
            clear hS hK K hSn
            intro hS
            generalize V0.heap.size = oy at *
            generalize World.alloc V0 (.cells #[.int .i64 0, .int .i64 0, .string ⟨#[]⟩, .slice none 0 0, .slice none 0 0] 25) = V1 at *
            refine wpAnyH_ready (rs := [2, 6, 8]) (by kernel_rfl) (by simp) (AllReadyH.cons rfl (fun K hK => ?_) (AllReadyH.cons rfl (fun K hK => ?_) (AllReadyH.cons rfl (fun K hK => ?_) AllReadyH.nil)))
            · go_simp
              have hSn := hS.al (.cells #[.int .i64 t.kind, .int .i64 t.so, .string t.name, .slice al t.labels.length cl, .slice ak t.kids.length ck, .int .i64 1, .int .i64 0, .string ⟨#[]⟩, .slice none 0 0, .slice none 0 0] 25)
              have HVx := hideK (tv_row hS.bl HT.out [oy] (bs1 hS HZy.out))
              replace HZy := hideK (HZy.out.al (.cells #[.int .i64 t.kind, .int .i64 t.so, .string t.name, .slice al t.labels.length cl, .slice ak t.kids.length ck, .int .i64 1, .int .i64 0, .string ⟨#[]⟩, .slice none 0 0, .slice none 0 0] 25))
              refine hK.out _ _ hSn ?_
              clear hS hK K hSn
              intro hS
              generalize V1.heap.size = rx at *
              generalize World.alloc V1 (.cells #[.int .i64 t.kind, .int .i64 t.so, .string t.name, .slice al t.labels.length cl, .slice ak t.kids.length ck, .int .i64 1, .int .i64 0, .string ⟨#[]⟩, .slice none 0 0, .slice none 0 0] 25) = V2 at *
              refine wpAnyH_take (i := 3) (v := (.agg #[.int .i64 4, .int .i64 0, .string ⟨#[]⟩, .slice none 0 0, .slice (some ⟨rx, 0, none⟩) 2 2])) rfl (by kernel_rfl) (by kernel_rfl) (by kernel_rfl) (fun _ _ _ h => h) (Or.inl ⟨by rfl, fun W hW => by go_simp⟩) hS ?_
              refine wpAnyH_ready (rs := [6, 8]) (by kernel_rfl) (by simp) (AllReadyH.cons rfl (fun K hK => ?_) (AllReadyH.cons rfl (fun K hK => ?_) AllReadyH.nil))
              · go_simp
                have hSn := hS.al (.cells #[.int .i64 s.kind, .int .i64 s.so, .string s.name, .slice sal s.labels.length scl, .slice sak s.kids.length sck, .int .i64 1, .int .i64 0, .string ⟨#[]⟩, .slice none 0 0, .slice none 0 0] 25)
                have HVy := hideK (tv_row hS.bl HS.out [oy] (bs1 hS HZy.out))
                replace HZy := hideK (HZy.out.al (.cells #[.int .i64 s.kind, .int .i64 s.so, .string s.name, .slice sal s.labels.length scl, .slice sak s.kids.length sck, .int .i64 1, .int .i64 0, .string ⟨#[]⟩, .slice none 0 0, .slice none 0 0] 25))
                replace HVx := hideK (HVx.out.al (.cells #[.int .i64 s.kind, .int .i64 s.so, .string s.name, .slice sal s.labels.length scl, .slice sak s.kids.length sck, .int .i64 1, .int .i64 0, .string ⟨#[]⟩, .slice none 0 0, .slice none 0 0] 25))
                refine hK.out _ _ hSn ?_
                clear hS hK K hSn
                intro hS
                generalize V2.heap.size = ry at *
                generalize World.alloc V2 (.cells #[.int .i64 s.kind, .int .i64 s.so, .string s.name, .slice sal s.labels.length scl, .slice sak s.kids.length sck, .int .i64 1, .int .i64 0, .string ⟨#[]⟩, .slice none 0 0, .slice none 0 0] 25) = V3 at *
                refine wpAnyH_take (i := 7) (v := (.agg #[.int .i64 4, .int .i64 0, .string ⟨#[]⟩, .slice none 0 0, .slice (some ⟨ry, 0, none⟩) 2 2])) rfl (by kernel_rfl) (by kernel_rfl) (by kernel_rfl) (fun _ _ _ h => h) (Or.inl ⟨by rfl, fun W hW => by go_simp⟩) hS ?_
                refine take_oneHL 8 (AllReadyH.cons rfl (fun K hK => ?_) AllReadyH.nil) (by kernel_rfl)
                go_simp
                have hSn := hS.al (.cells #[.int .i64 0, .int .i64 0, .string ⟨#[]⟩, .slice none 0 0, .slice none 0 0] 25)
                have HZx := hideK (BXZ.new (be := be) hS.lt)
                have HNE := hideK (show oy ≠ V3.heap.size from by have := HZy.out.lt; omega)
                replace HZy := hideK (HZy.out.al (.cells #[.int .i64 0, .int .i64 0, .string ⟨#[]⟩, .slice none 0 0, .slice none 0 0] 25))
                replace HVx := hideK (HVx.out.box (.cells #[.int .i64 0, .int .i64 0, .string ⟨#[]⟩, .slice none 0 0, .slice none 0 0] 25))
                replace HVy := hideK (HVy.out.box (.cells #[.int .i64 0, .int .i64 0, .string ⟨#[]⟩, .slice none 0 0, .slice none 0 0] 25))
                refine hK.out _ _ hSn ?_
                clear hS hK K hSn
                intro hS
                generalize V3.heap.size = ox at *
                generalize World.alloc V3 (.cells #[.int .i64 0, .int .i64 0, .string ⟨#[]⟩, .slice none 0 0, .slice none 0 0] 25) = V4 at *
                refine take_oneHL 10 (AllReadyH.cons rfl (fun K hK => ?_) AllReadyH.nil) (by kernel_rfl)
                obtain ⟨_, _, z0, z1, z2, z3, z4, zf⟩ := HZx.out
                have f0 := zf 0
                have f1 := zf 1
                have f2 := zf 2
                have f3 := zf 3
                have f4 := zf 4
                clear zf
                have hSn := hS.st (b := ox) HZx.out.lo (.int .i64 4) (.int .i64 0) (.string ⟨#[]⟩) (.slice none 0 0) (.slice (some ⟨rx, 0, none⟩) 2 2)
                have HOX := hideK HZx.out.lo
                have HTX := hideK (HVx.out.st (b := ox) (by simp) (.int .i64 4) (.int .i64 0) (.string ⟨#[]⟩) (.slice none 0 0) (.slice (some ⟨rx, 0, none⟩) 2 2))
                have HTA := hideK (show TyAt (st5 V4 ox 0 (.int .i64 4) (.int .i64 0) (.string ⟨#[]⟩) (.slice none 0 0) (.slice (some ⟨rx, 0, none⟩) 2 2)) ox 0 (gvT t) none 0 (some ⟨rx, 0, none⟩) 2 from HZx.out.ty (gvT t) none 0 (some ⟨rx, 0, none⟩) 2)
                have HLX := hideK (show ox < (st5 V4 ox 0 (.int .i64 4) (.int .i64 0) (.string ⟨#[]⟩) (.slice none 0 0) (.slice (some ⟨rx, 0, none⟩) 2 2)).heap.size from by rw [st5_size]; exact HZx.out.lt)
                replace HZy := hideK (HZy.out.st (b' := ox) HNE.out (.int .i64 4) (.int .i64 0) (.string ⟨#[]⟩) (.slice none 0 0) (.slice (some ⟨rx, 0, none⟩) 2 2))
                replace HVy := hideK (HVy.out.st (b := ox) (by simp) (.int .i64 4) (.int .i64 0) (.string ⟨#[]⟩) (.slice none 0 0) (.slice (some ⟨rx, 0, none⟩) 2 2))
                clear HVx HZx
                go_simp
                refine hK.out _ _ hSn ?_
                clear hS hK K hSn z0 z1 z2 z3 z4 f0 f1 f2 f3 f4
                intro hS
                change wpAnyH _ _ _ _ _ _ _ _ (st5 V4 ox 0 (.int .i64 4) (.int .i64 0) (.string ⟨#[]⟩) (.slice none 0 0) (.slice (some ⟨rx, 0, none⟩) 2 2))
                change CGW _ _ _ _ _ _ _ _ _ _ _ _ (st5 V4 ox 0 (.int .i64 4) (.int .i64 0) (.string ⟨#[]⟩) (.slice none 0 0) (.slice (some ⟨rx, 0, none⟩) 2 2)) at hS
                generalize st5 V4 ox 0 (.int .i64 4) (.int .i64 0) (.string ⟨#[]⟩) (.slice none 0 0) (.slice (some ⟨rx, 0, none⟩) 2 2) = V5 at *
                refine take_oneHL 11 (AllReadyH.cons rfl (fun K hK => ?_) AllReadyH.nil) (by kernel_rfl)
                obtain ⟨_, _, z0, z1, z2, z3, z4, zf⟩ := HZy.out
                have f0 := zf 0
                have f1 := zf 1
                have f2 := zf 2
                have f3 := zf 3
                have f4 := zf 4
                clear zf
                have hSn := hS.st (b := oy) HZy.out.lo (.int .i64 4) (.int .i64 0) (.string ⟨#[]⟩) (.slice none 0 0) (.slice (some ⟨ry, 0, none⟩) 2 2)
                have HTY := hideK ((HVy.out.st (b := oy) (by simp) (.int .i64 4) (.int .i64 0) (.string ⟨#[]⟩) (.slice none 0 0) (.slice (some ⟨ry, 0, none⟩) 2 2)).tyb (show TyAt (st5 V5 oy 0 (.int .i64 4) (.int .i64 0) (.string ⟨#[]⟩) (.slice none 0 0) (.slice (some ⟨ry, 0, none⟩) 2 2)) oy 0 (gvT s) none 0 (some ⟨ry, 0, none⟩) 2 from HZy.out.ty (gvT s) none 0 (some ⟨ry, 0, none⟩) 2) (by rw [st5_size]; exact HZy.out.lt))
                have HTX2 := hideK ((HTX.out.st (b := oy) (by simp) (.int .i64 4) (.int .i64 0) (.string ⟨#[]⟩) (.slice none 0 0) (.slice (some ⟨ry, 0, none⟩) 2 2)).tyb (tyAt_st (b := oy) HNE.out.symm (.int .i64 4) (.int .i64 0) (.string ⟨#[]⟩) (.slice none 0 0) (.slice (some ⟨ry, 0, none⟩) 2 2) HTA.out) (by rw [st5_size]; exact HLX.out))
                clear HVy HZy HTX HTA HLX HOX
                go_simp
                refine hK.out _ _ hSn ?_
                clear hS hK K hSn z0 z1 z2 z3 z4 f0 f1 f2 f3 f4
                intro hS
                change wpAnyH _ _ _ _ _ _ _ _ (st5 V5 oy 0 (.int .i64 4) (.int .i64 0) (.string ⟨#[]⟩) (.slice none 0 0) (.slice (some ⟨ry, 0, none⟩) 2 2))
                change CGW _ _ _ _ _ _ _ _ _ _ _ _ (st5 V5 oy 0 (.int .i64 4) (.int .i64 0) (.string ⟨#[]⟩) (.slice none 0 0) (.slice (some ⟨ry, 0, none⟩) 2 2)) at hS
                generalize st5 V5 oy 0 (.int .i64 4) (.int .i64 0) (.string ⟨#[]⟩) (.slice none 0 0) (.slice (some ⟨ry, 0, none⟩) 2 2) = V6 at *
                refine wpAnyH_done (by kernel_rfl) ?_ _
                go_wp2_with fail
                go_meet
                exact ⟨_, _, _, _, _, _, _, _, _, _, _, _, rfl, rfl, hS, HTX2.out, HTY.out⟩
              · go_simp
                have hSn := hS.al (.cells #[.int .i64 0, .int .i64 0, .string ⟨#[]⟩, .slice none 0 0, .slice none 0 0] 25)
                have HZx := hideK (BXZ.new (be := be) hS.lt)
                have HNE := hideK (show oy ≠ V2.heap.size from by have := HZy.out.lt; omega)
                replace HZy := hideK (HZy.out.al (.cells #[.int .i64 0, .int .i64 0, .string ⟨#[]⟩, .slice none 0 0, .slice none 0 0] 25))
                replace HVx := hideK (HVx.out.box (.cells #[.int .i64 0, .int .i64 0, .string ⟨#[]⟩, .slice none 0 0, .slice none 0 0] 25))
                refine hK.out _ _ hSn ?_
                clear hS hK K hSn
                intro hS
                generalize V2.heap.size = ox at *
                generalize World.alloc V2 (.cells #[.int .i64 0, .int .i64 0, .string ⟨#[]⟩, .slice none 0 0, .slice none 0 0] 25) = V3 at *
                refine wpAnyH_ready (rs := [6, 10]) (by kernel_rfl) (by simp) (AllReadyH.cons rfl (fun K hK => ?_) (AllReadyH.cons rfl (fun K hK => ?_) AllReadyH.nil))
                · go_simp
                  have hSn := hS.al (.cells #[.int .i64 s.kind, .int .i64 s.so, .string s.name, .slice sal s.labels.length scl, .slice sak s.kids.length sck, .int .i64 1, .int .i64 0, .string ⟨#[]⟩, .slice none 0 0, .slice none 0 0] 25)
                  have HVy := hideK (tv_row hS.bl HS.out [ox, oy] (bs2 hS HZx.out HZy.out))
                  replace HZy := hideK (HZy.out.al (.cells #[.int .i64 s.kind, .int .i64 s.so, .string s.name, .slice sal s.labels.length scl, .slice sak s.kids.length sck, .int .i64 1, .int .i64 0, .string ⟨#[]⟩, .slice none 0 0, .slice none 0 0] 25))
                  replace HZx := hideK (HZx.out.al (.cells #[.int .i64 s.kind, .int .i64 s.so, .string s.name, .slice sal s.labels.length scl, .slice sak s.kids.length sck, .int .i64 1, .int .i64 0, .string ⟨#[]⟩, .slice none 0 0, .slice none 0 0] 25))
                  replace HVx := hideK (HVx.out.al (.cells #[.int .i64 s.kind, .int .i64 s.so, .string s.name, .slice sal s.labels.length scl, .slice sak s.kids.length sck, .int .i64 1, .int .i64 0, .string ⟨#[]⟩, .slice none 0 0, .slice none 0 0] 25))
                  refine hK.out _ _ hSn ?_
                  clear hS hK K hSn
                  intro hS
                  generalize V3.heap.size = ry at *
                  generalize World.alloc V3 (.cells #[.int .i64 s.kind, .int .i64 s.so, .string s.name, .slice sal s.labels.length scl, .slice sak s.kids.length sck, .int .i64 1, .int .i64 0, .string ⟨#[]⟩, .slice none 0 0, .slice none 0 0] 25) = V4 at *
                  refine wpAnyH_take (i := 7) (v := (.agg #[.int .i64 4, .int .i64 0, .string ⟨#[]⟩, .slice none 0 0, .slice (some ⟨ry, 0, none⟩) 2 2])) rfl (by kernel_rfl) (by kernel_rfl) (by kernel_rfl) (fun _ _ _ h => h) (Or.inl ⟨by rfl, fun W hW => by go_simp⟩) hS ?_
                  refine take_oneHL 10 (AllReadyH.cons rfl (fun K hK => ?_) AllReadyH.nil) (by kernel_rfl)
                  obtain ⟨_, _, z0, z1, z2, z3, z4, zf⟩ := HZx.out
                  have f0 := zf 0
                  have f1 := zf 1
                  have f2 := zf 2
                  have f3 := zf 3
                  have f4 := zf 4
                  clear zf
                  have hSn := hS.st (b := ox) HZx.out.lo (.int .i64 4) (.int .i64 0) (.string ⟨#[]⟩) (.slice none 0 0) (.slice (some ⟨rx, 0, none⟩) 2 2)
                  have HOX := hideK HZx.out.lo
                  have HTX := hideK (HVx.out.st (b := ox) (by simp) (.int .i64 4) (.int .i64 0) (.string ⟨#[]⟩) (.slice none 0 0) (.slice (some ⟨rx, 0, none⟩) 2 2))
                  have HTA := hideK (show TyAt (st5 V4 ox 0 (.int .i64 4) (.int .i64 0) (.string ⟨#[]⟩) (.slice none 0 0) (.slice (some ⟨rx, 0, none⟩) 2 2)) ox 0 (gvT t) none 0 (some ⟨rx, 0, none⟩) 2 from HZx.out.ty (gvT t) none 0 (some ⟨rx, 0, none⟩) 2)
                  have HLX := hideK (show ox < (st5 V4 ox 0 (.int .i64 4) (.int .i64 0) (.string ⟨#[]⟩) (.slice none 0 0) (.slice (some ⟨rx, 0, none⟩) 2 2)).heap.size from by rw [st5_size]; exact HZx.out.lt)
                  replace HZy := hideK (HZy.out.st (b' := ox) HNE.out (.int .i64 4) (.int .i64 0) (.string ⟨#[]⟩) (.slice none 0 0) (.slice (some ⟨rx, 0, none⟩) 2 2))
                  replace HVy := hideK (HVy.out.st (b := ox) (by simp) (.int .i64 4) (.int .i64 0) (.string ⟨#[]⟩) (.slice none 0 0) (.slice (some ⟨rx, 0, none⟩) 2 2))
                  clear HVx HZx
                  go_simp
                  refine hK.out _ _ hSn ?_
                  clear hS hK K hSn z0 z1 z2 z3 z4 f0 f1 f2 f3 f4
                  intro hS
                  change wpAnyH _ _ _ _ _ _ _ _ (st5 V4 ox 0 (.int .i64 4) (.int .i64 0) (.string ⟨#[]⟩) (.slice none 0 0) (.slice (some ⟨rx, 0, none⟩) 2 2))
                  change CGW _ _ _ _ _ _ _ _ _ _ _ _ (st5 V4 ox 0 (.int .i64 4) (.int .i64 0) (.string ⟨#[]⟩) (.slice none 0 0) (.slice (some ⟨rx, 0, none⟩) 2 2)) at hS
                  generalize st5 V4 ox 0 (.int .i64 4) (.int .i64 0) (.string ⟨#[]⟩) (.slice none 0 0) (.slice (some ⟨rx, 0, none⟩) 2 2) = V5 at *
                  refine take_oneHL 11 (AllReadyH.cons rfl (fun K hK => ?_) AllReadyH.nil) (by kernel_rfl)
                  obtain ⟨_, _, z0, z1, z2, z3, z4, zf⟩ := HZy.out
                  have f0 := zf 0
                  have f1 := zf 1
                  have f2 := zf 2
                  have f3 := zf 3
                  have f4 := zf 4
                  clear zf
                  have hSn := hS.st (b := oy) HZy.out.lo (.int .i64 4) (.int .i64 0) (.string ⟨#[]⟩) (.slice none 0 0) (.slice (some ⟨ry, 0, none⟩) 2 2)
                  have HTY := hideK ((HVy.out.st (b := oy) (by simp) (.int .i64 4) (.int .i64 0) (.string ⟨#[]⟩) (.slice none 0 0) (.slice (some ⟨ry, 0, none⟩) 2 2)).tyb (show TyAt (st5 V5 oy 0 (.int .i64 4) (.int .i64 0) (.string ⟨#[]⟩) (.slice none 0 0) (.slice (some ⟨ry, 0, none⟩) 2 2)) oy 0 (gvT s) none 0 (some ⟨ry, 0, none⟩) 2 from HZy.out.ty (gvT s) none 0 (some ⟨ry, 0, none⟩) 2) (by rw [st5_size]; exact HZy.out.lt))
                  have HTX2 := hideK ((HTX.out.st (b := oy) (by simp) (.int .i64 4) (.int .i64 0) (.string ⟨#[]⟩) (.slice none 0 0) (.slice (some ⟨ry, 0, none⟩) 2 2)).tyb (tyAt_st (b := oy) HNE.out.symm (.int .i64 4) (.int .i64 0) (.string ⟨#[]⟩) (.slice none 0 0) (.slice (some ⟨ry, 0, none⟩) 2 2) HTA.out) (by rw [st5_size]; exact HLX.out))
                  clear HVy HZy HTX HTA HLX HOX
                  go_simp
                  refine hK.out _ _ hSn ?_
                  clear hS hK K hSn z0 z1 z2 z3 z4 f0 f1 f2 f3 f4
                  intro hS
                  change wpAnyH _ _ _ _ _ _ _ _ (st5 V5 oy 0 (.int .i64 4) (.int .i64 0) (.string ⟨#[]⟩) (.slice none 0 0) (.slice (some ⟨ry, 0, none⟩) 2 2))
                  change CGW _ _ _ _ _ _ _ _ _ _ _ _ (st5 V5 oy 0 (.int .i64 4) (.int .i64 0) (.string ⟨#[]⟩) (.slice none 0 0) (.slice (some ⟨ry, 0, none⟩) 2 2)) at hS
                  generalize st5 V5 oy 0 (.int .i64 4) (.int .i64 0) (.string ⟨#[]⟩) (.slice none 0 0) (.slice (some ⟨ry, 0, none⟩) 2 2) = V6 at *
                  refine wpAnyH_done (by kernel_rfl) ?_ _
                  go_wp2_with fail
                  go_meet
                  exact ⟨_, _, _, _, _, _, _, _, _, _, _, _, rfl, rfl, hS, HTX2.out, HTY.out⟩
                · obtain ⟨_, _, z0, z1, z2, z3, z4, zf⟩ := HZx.out
                  have f0 := zf 0
                  have f1 := zf 1
                  have f2 := zf 2
                  have f3 := zf 3
                  have f4 := zf 4
                  clear zf
                  have hSn := hS.st (b := ox) HZx.out.lo (.int .i64 4) (.int .i64 0) (.string ⟨#[]⟩) (.slice none 0 0) (.slice (some ⟨rx, 0, none⟩) 2 2)
                  have HOX := hideK HZx.out.lo
                  have HTX := hideK (HVx.out.st (b := ox) (by simp) (.int .i64 4) (.int .i64 0) (.string ⟨#[]⟩) (.slice none 0 0) (.slice (some ⟨rx, 0, none⟩) 2 2))
                  have HTA := hideK (show TyAt (st5 V3 ox 0 (.int .i64 4) (.int .i64 0) (.string ⟨#[]⟩) (.slice none 0 0) (.slice (some ⟨rx, 0, none⟩) 2 2)) ox 0 (gvT t) none 0 (some ⟨rx, 0, none⟩) 2 from HZx.out.ty (gvT t) none 0 (some ⟨rx, 0, none⟩) 2)
                  have HLX := hideK (show ox < (st5 V3 ox 0 (.int .i64 4) (.int .i64 0) (.string ⟨#[]⟩) (.slice none 0 0) (.slice (some ⟨rx, 0, none⟩) 2 2)).heap.size from by rw [st5_size]; exact HZx.out.lt)
                  replace HZy := hideK (HZy.out.st (b' := ox) HNE.out (.int .i64 4) (.int .i64 0) (.string ⟨#[]⟩) (.slice none 0 0) (.slice (some ⟨rx, 0, none⟩) 2 2))
                  clear HVx HZx
                  go_simp
                  refine hK.out _ _ hSn ?_
                  clear hS hK K hSn z0 z1 z2 z3 z4 f0 f1 f2 f3 f4
                  intro hS
                  change wpAnyH _ _ _ _ _ _ _ _ (st5 V3 ox 0 (.int .i64 4) (.int .i64 0) (.string ⟨#[]⟩) (.slice none 0 0) (.slice (some ⟨rx, 0, none⟩) 2 2))
                  change CGW _ _ _ _ _ _ _ _ _ _ _ _ (st5 V3 ox 0 (.int .i64 4) (.int .i64 0) (.string ⟨#[]⟩) (.slice none 0 0) (.slice (some ⟨rx, 0, none⟩) 2 2)) at hS
                  generalize st5 V3 ox 0 (.int .i64 4) (.int .i64 0) (.string ⟨#[]⟩) (.slice none 0 0) (.slice (some ⟨rx, 0, none⟩) 2 2) = V4 at *
                  refine take_oneHL 6 (AllReadyH.cons rfl (fun K hK => ?_) AllReadyH.nil) (by kernel_rfl)
                  go_simp
                  have hSn := hS.al (.cells #[.int .i64 s.kind, .int .i64 s.so, .string s.name, .slice sal s.labels.length scl, .slice sak s.kids.length sck, .int .i64 1, .int .i64 0, .string ⟨#[]⟩, .slice none 0 0, .slice none 0 0] 25)
                  have HVy := hideK (tv_row hS.bl HS.out [ox, oy] (bsA hS HOX.out HLX.out HZy.out))
                  replace HZy := hideK (HZy.out.al (.cells #[.int .i64 s.kind, .int .i64 s.so, .string s.name, .slice sal s.labels.length scl, .slice sak s.kids.length sck, .int .i64 1, .int .i64 0, .string ⟨#[]⟩, .slice none 0 0, .slice none 0 0] 25))
                  replace HTX := hideK (HTX.out.al (.cells #[.int .i64 s.kind, .int .i64 s.so, .string s.name, .slice sal s.labels.length scl, .slice sak s.kids.length sck, .int .i64 1, .int .i64 0, .string ⟨#[]⟩, .slice none 0 0, .slice none 0 0] 25))
                  replace HTA := hideK (HTA.out.keep ((Below.refl _ _).alloc (Nat.le_refl _) (.cells #[.int .i64 s.kind, .int .i64 s.so, .string s.name, .slice sal s.labels.length scl, .slice sak s.kids.length sck, .int .i64 1, .int .i64 0, .string ⟨#[]⟩, .slice none 0 0, .slice none 0 0] 25)) HLX.out)
                  replace HLX := hideK (show ox < (World.alloc V4 (.cells #[.int .i64 s.kind, .int .i64 s.so, .string s.name, .slice sal s.labels.length scl, .slice sak s.kids.length sck, .int .i64 1, .int .i64 0, .string ⟨#[]⟩, .slice none 0 0, .slice none 0 0] 25)).heap.size from by have := HLX.out; simp; omega)
                  refine hK.out _ _ hSn ?_
                  clear hS hK K hSn
                  intro hS
                  generalize V4.heap.size = ry at *
                  generalize World.alloc V4 (.cells #[.int .i64 s.kind, .int .i64 s.so, .string s.name, .slice sal s.labels.length scl, .slice sak s.kids.length sck, .int .i64 1, .int .i64 0, .string ⟨#[]⟩, .slice none 0 0, .slice none 0 0] 25) = V5 at *
                  refine wpAnyH_take (i := 7) (v := (.agg #[.int .i64 4, .int .i64 0, .string ⟨#[]⟩, .slice none 0 0, .slice (some ⟨ry, 0, none⟩) 2 2])) rfl (by kernel_rfl) (by kernel_rfl) (by kernel_rfl) (fun _ _ _ h => h) (Or.inl ⟨by rfl, fun W hW => by go_simp⟩) hS ?_
                  refine take_oneHL 11 (AllReadyH.cons rfl (fun K hK => ?_) AllReadyH.nil) (by kernel_rfl)
                  obtain ⟨_, _, z0, z1, z2, z3, z4, zf⟩ := HZy.out
                  have f0 := zf 0
                  have f1 := zf 1
                  have f2 := zf 2
                  have f3 := zf 3
                  have f4 := zf 4
                  clear zf
                  have hSn := hS.st (b := oy) HZy.out.lo (.int .i64 4) (.int .i64 0) (.string ⟨#[]⟩) (.slice none 0 0) (.slice (some ⟨ry, 0, none⟩) 2 2)
                  have HTY := hideK ((HVy.out.st (b := oy) (by simp) (.int .i64 4) (.int .i64 0) (.string ⟨#[]⟩) (.slice none 0 0) (.slice (some ⟨ry, 0, none⟩) 2 2)).tyb (show TyAt (st5 V5 oy 0 (.int .i64 4) (.int .i64 0) (.string ⟨#[]⟩) (.slice none 0 0) (.slice (some ⟨ry, 0, none⟩) 2 2)) oy 0 (gvT s) none 0 (some ⟨ry, 0, none⟩) 2 from HZy.out.ty (gvT s) none 0 (some ⟨ry, 0, none⟩) 2) (by rw [st5_size]; exact HZy.out.lt))
                  have HTX2 := hideK ((HTX.out.st (b := oy) (by simp) (.int .i64 4) (.int .i64 0) (.string ⟨#[]⟩) (.slice none 0 0) (.slice (some ⟨ry, 0, none⟩) 2 2)).tyb (tyAt_st (b := oy) HNE.out.symm (.int .i64 4) (.int .i64 0) (.string ⟨#[]⟩) (.slice none 0 0) (.slice (some ⟨ry, 0, none⟩) 2 2) HTA.out) (by rw [st5_size]; exact HLX.out))
                  clear HVy HZy HTX HTA HLX HOX
                  go_simp
                  refine hK.out _ _ hSn ?_
                  clear hS hK K hSn z0 z1 z2 z3 z4 f0 f1 f2 f3 f4
                  intro hS
                  change wpAnyH _ _ _ _ _ _ _ _ (st5 V5 oy 0 (.int .i64 4) (.int .i64 0) (.string ⟨#[]⟩) (.slice none 0 0) (.slice (some ⟨ry, 0, none⟩) 2 2))
                  change CGW _ _ _ _ _ _ _ _ _ _ _ _ (st5 V5 oy 0 (.int .i64 4) (.int .i64 0) (.string ⟨#[]⟩) (.slice none 0 0) (.slice (some ⟨ry, 0, none⟩) 2 2)) at hS
                  generalize st5 V5 oy 0 (.int .i64 4) (.int .i64 0) (.string ⟨#[]⟩) (.slice none 0 0) (.slice (some ⟨ry, 0, none⟩) 2 2) = V6 at *
                  refine wpAnyH_done (by kernel_rfl) ?_ _
                  go_wp2_with fail
                  go_meet
                  exact ⟨_, _, _, _, _, _, _, _, _, _, _, _, rfl, rfl, hS, HTX2.out, HTY.out⟩
            · go_simp
              have hSn := hS.al (.cells #[.int .i64 s.kind, .int .i64 s.so, .string s.name, .slice sal s.labels.length scl, .slice sak s.kids.length sck, .int .i64 1, .int .i64 0, .string ⟨#[]⟩, .slice none 0 0, .slice none 0 0] 25)
              have HVy := hideK (tv_row hS.bl HS.out [oy] (bs1 hS HZy.out))
              replace HZy := hideK (HZy.out.al (.cells #[.int .i64 s.kind, .int .i64 s.so, .string s.name, .slice sal s.labels.length scl, .slice sak s.kids.length sck, .int .i64 1, .int .i64 0, .string ⟨#[]⟩, .slice none 0 0, .slice none 0 0] 25))
              refine hK.out _ _ hSn ?_
              clear hS hK K hSn
              intro hS
              generalize V1.heap.size = ry at *
              generalize World.alloc V1 (.cells #[.int .i64 s.kind, .int .i64 s.so, .string s.name, .slice sal s.labels.length scl, .slice sak s.kids.length sck, .int .i64 1, .int .i64 0, .string ⟨#[]⟩, .slice none 0 0, .slice none 0 0] 25) = V2 at *
              refine wpAnyH_take (i := 7) (v := (.agg #[.int .i64 4, .int .i64 0, .string ⟨#[]⟩, .slice none 0 0, .slice (some ⟨ry, 0, none⟩) 2 2])) rfl (by kernel_rfl) (by kernel_rfl) (by kernel_rfl) (fun _ _ _ h => h) (Or.inl ⟨by rfl, fun W hW => by go_simp⟩) hS ?_
              refine wpAnyH_ready (rs := [2, 8]) (by kernel_rfl) (by simp) (AllReadyH.cons rfl (fun K hK => ?_) (AllReadyH.cons rfl (fun K hK => ?_) AllReadyH.nil))
              · go_simp
                have hSn := hS.al (.cells #[.int .i64 t.kind, .int .i64 t.so, .string t.name, .slice al t.labels.length cl, .slice ak t.kids.length ck, .int .i64 1, .int .i64 0, .string ⟨#[]⟩, .slice none 0 0, .slice none 0 0] 25)
                have HVx := hideK (tv_row hS.bl HT.out [oy] (bs1 hS HZy.out))
                replace HZy := hideK (HZy.out.al (.cells #[.int .i64 t.kind, .int .i64 t.so, .string t.name, .slice al t.labels.length cl, .slice ak t.kids.length ck, .int .i64 1, .int .i64 0, .string ⟨#[]⟩, .slice none 0 0, .slice none 0 0] 25))
                replace HVy := hideK (HVy.out.al (.cells #[.int .i64 t.kind, .int .i64 t.so, .string t.name, .slice al t.labels.length cl, .slice ak t.kids.length ck, .int .i64 1, .int .i64 0, .string ⟨#[]⟩, .slice none 0 0, .slice none 0 0] 25))
                refine hK.out _ _ hSn ?_
                clear hS hK K hSn
                intro hS
                generalize V2.heap.size = rx at *
                generalize World.alloc V2 (.cells #[.int .i64 t.kind, .int .i64 t.so, .string t.name, .slice al t.labels.length cl, .slice ak t.kids.length ck, .int .i64 1, .int .i64 0, .string ⟨#[]⟩, .slice none 0 0, .slice none 0 0] 25) = V3 at *
                refine wpAnyH_take (i := 3) (v := (.agg #[.int .i64 4, .int .i64 0, .string ⟨#[]⟩, .slice none 0 0, .slice (some ⟨rx, 0, none⟩) 2 2])) rfl (by kernel_rfl) (by kernel_rfl) (by kernel_rfl) (fun _ _ _ h => h) (Or.inl ⟨by rfl, fun W hW => by go_simp⟩) hS ?_
                refine take_oneHL 8 (AllReadyH.cons rfl (fun K hK => ?_) AllReadyH.nil) (by kernel_rfl)
                go_simp
                have hSn := hS.al (.cells #[.int .i64 0, .int .i64 0, .string ⟨#[]⟩, .slice none 0 0, .slice none 0 0] 25)
                have HZx := hideK (BXZ.new (be := be) hS.lt)
                have HNE := hideK (show oy ≠ V3.heap.size from by have := HZy.out.lt; omega)
                replace HZy := hideK (HZy.out.al (.cells #[.int .i64 0, .int .i64 0, .string ⟨#[]⟩, .slice none 0 0, .slice none 0 0] 25))
                replace HVy := hideK (HVy.out.box (.cells #[.int .i64 0, .int .i64 0, .string ⟨#[]⟩, .slice none 0 0, .slice none 0 0] 25))
                replace HVx := hideK (HVx.out.box (.cells #[.int .i64 0, .int .i64 0, .string ⟨#[]⟩, .slice none 0 0, .slice none 0 0] 25))
                refine hK.out _ _ hSn ?_
                clear hS hK K hSn
                intro hS
                generalize V3.heap.size = ox at *
                generalize World.alloc V3 (.cells #[.int .i64 0, .int .i64 0, .string ⟨#[]⟩, .slice none 0 0, .slice none 0 0] 25) = V4 at *
                refine take_oneHL 10 (AllReadyH.cons rfl (fun K hK => ?_) AllReadyH.nil) (by kernel_rfl)
                obtain ⟨_, _, z0, z1, z2, z3, z4, zf⟩ := HZx.out
                have f0 := zf 0
                have f1 := zf 1
                have f2 := zf 2
                have f3 := zf 3
                have f4 := zf 4
                clear zf
                have hSn := hS.st (b := ox) HZx.out.lo (.int .i64 4) (.int .i64 0) (.string ⟨#[]⟩) (.slice none 0 0) (.slice (some ⟨rx, 0, none⟩) 2 2)
                have HOX := hideK HZx.out.lo
                have HTX := hideK (HVx.out.st (b := ox) (by simp) (.int .i64 4) (.int .i64 0) (.string ⟨#[]⟩) (.slice none 0 0) (.slice (some ⟨rx, 0, none⟩) 2 2))
                have HTA := hideK (show TyAt (st5 V4 ox 0 (.int .i64 4) (.int .i64 0) (.string ⟨#[]⟩) (.slice none 0 0) (.slice (some ⟨rx, 0, none⟩) 2 2)) ox 0 (gvT t) none 0 (some ⟨rx, 0, none⟩) 2 from HZx.out.ty (gvT t) none 0 (some ⟨rx, 0, none⟩) 2)
                have HLX := hideK (show ox < (st5 V4 ox 0 (.int .i64 4) (.int .i64 0) (.string ⟨#[]⟩) (.slice none 0 0) (.slice (some ⟨rx, 0, none⟩) 2 2)).heap.size from by rw [st5_size]; exact HZx.out.lt)
                replace HZy := hideK (HZy.out.st (b' := ox) HNE.out (.int .i64 4) (.int .i64 0) (.string ⟨#[]⟩) (.slice none 0 0) (.slice (some ⟨rx, 0, none⟩) 2 2))
                replace HVy := hideK (HVy.out.st (b := ox) (by simp) (.int .i64 4) (.int .i64 0) (.string ⟨#[]⟩) (.slice none 0 0) (.slice (some ⟨rx, 0, none⟩) 2 2))
                clear HVx HZx
                go_simp
                refine hK.out _ _ hSn ?_
                clear hS hK K hSn z0 z1 z2 z3 z4 f0 f1 f2 f3 f4
                intro hS
                change wpAnyH _ _ _ _ _ _ _ _ (st5 V4 ox 0 (.int .i64 4) (.int .i64 0) (.string ⟨#[]⟩) (.slice none 0 0) (.slice (some ⟨rx, 0, none⟩) 2 2))
                change CGW _ _ _ _ _ _ _ _ _ _ _ _ (st5 V4 ox 0 (.int .i64 4) (.int .i64 0) (.string ⟨#[]⟩) (.slice none 0 0) (.slice (some ⟨rx, 0, none⟩) 2 2)) at hS
                generalize st5 V4 ox 0 (.int .i64 4) (.int .i64 0) (.string ⟨#[]⟩) (.slice none 0 0) (.slice (some ⟨rx, 0, none⟩) 2 2) = V5 at *
                refine take_oneHL 11 (AllReadyH.cons rfl (fun K hK => ?_) AllReadyH.nil) (by kernel_rfl)
                obtain ⟨_, _, z0, z1, z2, z3, z4, zf⟩ := HZy.out
                have f0 := zf 0
                have f1 := zf 1
                have f2 := zf 2
                have f3 := zf 3
                have f4 := zf 4
                clear zf
                have hSn := hS.st (b := oy) HZy.out.lo (.int .i64 4) (.int .i64 0) (.string ⟨#[]⟩) (.slice none 0 0) (.slice (some ⟨ry, 0, none⟩) 2 2)
                have HTY := hideK ((HVy.out.st (b := oy) (by simp) (.int .i64 4) (.int .i64 0) (.string ⟨#[]⟩) (.slice none 0 0) (.slice (some ⟨ry, 0, none⟩) 2 2)).tyb (show TyAt (st5 V5 oy 0 (.int .i64 4) (.int .i64 0) (.string ⟨#[]⟩) (.slice none 0 0) (.slice (some ⟨ry, 0, none⟩) 2 2)) oy 0 (gvT s) none 0 (some ⟨ry, 0, none⟩) 2 from HZy.out.ty (gvT s) none 0 (some ⟨ry, 0, none⟩) 2) (by rw [st5_size]; exact HZy.out.lt))
                have HTX2 := hideK ((HTX.out.st (b := oy) (by simp) (.int .i64 4) (.int .i64 0) (.string ⟨#[]⟩) (.slice none 0 0) (.slice (some ⟨ry, 0, none⟩) 2 2)).tyb (tyAt_st (b := oy) HNE.out.symm (.int .i64 4) (.int .i64 0) (.string ⟨#[]⟩) (.slice none 0 0) (.slice (some ⟨ry, 0, none⟩) 2 2) HTA.out) (by rw [st5_size]; exact HLX.out))
                clear HVy HZy HTX HTA HLX HOX
                go_simp
                refine hK.out _ _ hSn ?_
                clear hS hK K hSn z0 z1 z2 z3 z4 f0 f1 f2 f3 f4
                intro hS
                change wpAnyH _ _ _ _ _ _ _ _ (st5 V5 oy 0 (.int .i64 4) (.int .i64 0) (.string ⟨#[]⟩) (.slice none 0 0) (.slice (some ⟨ry, 0, none⟩) 2 2))
                change CGW _ _ _ _ _ _ _ _ _ _ _ _ (st5 V5 oy 0 (.int .i64 4) (.int .i64 0) (.string ⟨#[]⟩) (.slice none 0 0) (.slice (some ⟨ry, 0, none⟩) 2 2)) at hS
                generalize st5 V5 oy 0 (.int .i64 4) (.int .i64 0) (.string ⟨#[]⟩) (.slice none 0 0) (.slice (some ⟨ry, 0, none⟩) 2 2) = V6 at *
                refine wpAnyH_done (by kernel_rfl) ?_ _
                go_wp2_with fail
                go_meet
                exact ⟨_, _, _, _, _, _, _, _, _, _, _, _, rfl, rfl, hS, HTX2.out, HTY.out⟩
              · go_simp
                have hSn := hS.al (.cells #[.int .i64 0, .int .i64 0, .string ⟨#[]⟩, .slice none 0 0, .slice none 0 0] 25)
                have HZx := hideK (BXZ.new (be := be) hS.lt)
                have HNE := hideK (show oy ≠ V2.heap.size from by have := HZy.out.lt; omega)
                replace HZy := hideK (HZy.out.al (.cells #[.int .i64 0, .int .i64 0, .string ⟨#[]⟩, .slice none 0 0, .slice none 0 0] 25))
                replace HVy := hideK (HVy.out.box (.cells #[.int .i64 0, .int .i64 0, .string ⟨#[]⟩, .slice none 0 0, .slice none 0 0] 25))
                refine hK.out _ _ hSn ?_
                clear hS hK K hSn
                intro hS
                generalize V2.heap.size = ox at *
                generalize World.alloc V2 (.cells #[.int .i64 0, .int .i64 0, .string ⟨#[]⟩, .slice none 0 0, .slice none 0 0] 25) = V3 at *
                refine take_oneHL 2 (AllReadyH.cons rfl (fun K hK => ?_) AllReadyH.nil) (by kernel_rfl)
                go_simp
                have hSn := hS.al (.cells #[.int .i64 t.kind, .int .i64 t.so, .string t.name, .slice al t.labels.length cl, .slice ak t.kids.length ck, .int .i64 1, .int .i64 0, .string ⟨#[]⟩, .slice none 0 0, .slice none 0 0] 25)
                have HVx := hideK (tv_row hS.bl HT.out [ox, oy] (bs2 hS HZx.out HZy.out))
                replace HZy := hideK (HZy.out.al (.cells #[.int .i64 t.kind, .int .i64 t.so, .string t.name, .slice al t.labels.length cl, .slice ak t.kids.length ck, .int .i64 1, .int .i64 0, .string ⟨#[]⟩, .slice none 0 0, .slice none 0 0] 25))
                replace HZx := hideK (HZx.out.al (.cells #[.int .i64 t.kind, .int .i64 t.so, .string t.name, .slice al t.labels.length cl, .slice ak t.kids.length ck, .int .i64 1, .int .i64 0, .string ⟨#[]⟩, .slice none 0 0, .slice none 0 0] 25))
                replace HVy := hideK (HVy.out.al (.cells #[.int .i64 t.kind, .int .i64 t.so, .string t.name, .slice al t.labels.length cl, .slice ak t.kids.length ck, .int .i64 1, .int .i64 0, .string ⟨#[]⟩, .slice none 0 0, .slice none 0 0] 25))
                refine hK.out _ _ hSn ?_
                clear hS hK K hSn
                intro hS
                generalize V3.heap.size = rx at *
                generalize World.alloc V3 (.cells #[.int .i64 t.kind, .int .i64 t.so, .string t.name, .slice al t.labels.length cl, .slice ak t.kids.length ck, .int .i64 1, .int .i64 0, .string ⟨#[]⟩, .slice none 0 0, .slice none 0 0] 25) = V4 at *
                refine wpAnyH_take (i := 3) (v := (.agg #[.int .i64 4, .int .i64 0, .string ⟨#[]⟩, .slice none 0 0, .slice (some ⟨rx, 0, none⟩) 2 2])) rfl (by kernel_rfl) (by kernel_rfl) (by kernel_rfl) (fun _ _ _ h => h) (Or.inl ⟨by rfl, fun W hW => by go_simp⟩) hS ?_
                refine take_oneHL 10 (AllReadyH.cons rfl (fun K hK => ?_) AllReadyH.nil) (by kernel_rfl)
                obtain ⟨_, _, z0, z1, z2, z3, z4, zf⟩ := HZx.out
                have f0 := zf 0
                have f1 := zf 1
                have f2 := zf 2
                have f3 := zf 3
                have f4 := zf 4
                clear zf
                have hSn := hS.st (b := ox) HZx.out.lo (.int .i64 4) (.int .i64 0) (.string ⟨#[]⟩) (.slice none 0 0) (.slice (some ⟨rx, 0, none⟩) 2 2)
                have HOX := hideK HZx.out.lo
                have HTX := hideK (HVx.out.st (b := ox) (by simp) (.int .i64 4) (.int .i64 0) (.string ⟨#[]⟩) (.slice none 0 0) (.slice (some ⟨rx, 0, none⟩) 2 2))
                have HTA := hideK (show TyAt (st5 V4 ox 0 (.int .i64 4) (.int .i64 0) (.string ⟨#[]⟩) (.slice none 0 0) (.slice (some ⟨rx, 0, none⟩) 2 2)) ox 0 (gvT t) none 0 (some ⟨rx, 0, none⟩) 2 from HZx.out.ty (gvT t) none 0 (some ⟨rx, 0, none⟩) 2)
                have HLX := hideK (show ox < (st5 V4 ox 0 (.int .i64 4) (.int .i64 0) (.string ⟨#[]⟩) (.slice none 0 0) (.slice (some ⟨rx, 0, none⟩) 2 2)).heap.size from by rw [st5_size]; exact HZx.out.lt)
                replace HZy := hideK (HZy.out.st (b' := ox) HNE.out (.int .i64 4) (.int .i64 0) (.string ⟨#[]⟩) (.slice none 0 0) (.slice (some ⟨rx, 0, none⟩) 2 2))
                replace HVy := hideK (HVy.out.st (b := ox) (by simp) (.int .i64 4) (.int .i64 0) (.string ⟨#[]⟩) (.slice none 0 0) (.slice (some ⟨rx, 0, none⟩) 2 2))
                clear HVx HZx
                go_simp
                refine hK.out _ _ hSn ?_
                clear hS hK K hSn z0 z1 z2 z3 z4 f0 f1 f2 f3 f4
                intro hS
                change wpAnyH _ _ _ _ _ _ _ _ (st5 V4 ox 0 (.int .i64 4) (.int .i64 0) (.string ⟨#[]⟩) (.slice none 0 0) (.slice (some ⟨rx, 0, none⟩) 2 2))
                change CGW _ _ _ _ _ _ _ _ _ _ _ _ (st5 V4 ox 0 (.int .i64 4) (.int .i64 0) (.string ⟨#[]⟩) (.slice none 0 0) (.slice (some ⟨rx, 0, none⟩) 2 2)) at hS
                generalize st5 V4 ox 0 (.int .i64 4) (.int .i64 0) (.string ⟨#[]⟩) (.slice none 0 0) (.slice (some ⟨rx, 0, none⟩) 2 2) = V5 at *
                refine take_oneHL 11 (AllReadyH.cons rfl (fun K hK => ?_) AllReadyH.nil) (by kernel_rfl)
                obtain ⟨_, _, z0, z1, z2, z3, z4, zf⟩ := HZy.out
                have f0 := zf 0
                have f1 := zf 1
                have f2 := zf 2
                have f3 := zf 3
                have f4 := zf 4
                clear zf
                have hSn := hS.st (b := oy) HZy.out.lo (.int .i64 4) (.int .i64 0) (.string ⟨#[]⟩) (.slice none 0 0) (.slice (some ⟨ry, 0, none⟩) 2 2)
                have HTY := hideK ((HVy.out.st (b := oy) (by simp) (.int .i64 4) (.int .i64 0) (.string ⟨#[]⟩) (.slice none 0 0) (.slice (some ⟨ry, 0, none⟩) 2 2)).tyb (show TyAt (st5 V5 oy 0 (.int .i64 4) (.int .i64 0) (.string ⟨#[]⟩) (.slice none 0 0) (.slice (some ⟨ry, 0, none⟩) 2 2)) oy 0 (gvT s) none 0 (some ⟨ry, 0, none⟩) 2 from HZy.out.ty (gvT s) none 0 (some ⟨ry, 0, none⟩) 2) (by rw [st5_size]; exact HZy.out.lt))
                have HTX2 := hideK ((HTX.out.st (b := oy) (by simp) (.int .i64 4) (.int .i64 0) (.string ⟨#[]⟩) (.slice none 0 0) (.slice (some ⟨ry, 0, none⟩) 2 2)).tyb (tyAt_st (b := oy) HNE.out.symm (.int .i64 4) (.int .i64 0) (.string ⟨#[]⟩) (.slice none 0 0) (.slice (some ⟨ry, 0, none⟩) 2 2) HTA.out) (by rw [st5_size]; exact HLX.out))
                clear HVy HZy HTX HTA HLX HOX
                go_simp
                refine hK.out _ _ hSn ?_
                clear hS hK K hSn z0 z1 z2 z3 z4 f0 f1 f2 f3 f4
                intro hS
                change wpAnyH _ _ _ _ _ _ _ _ (st5 V5 oy 0 (.int .i64 4) (.int .i64 0) (.string ⟨#[]⟩) (.slice none 0 0) (.slice (some ⟨ry, 0, none⟩) 2 2))
                change CGW _ _ _ _ _ _ _ _ _ _ _ _ (st5 V5 oy 0 (.int .i64 4) (.int .i64 0) (.string ⟨#[]⟩) (.slice none 0 0) (.slice (some ⟨ry, 0, none⟩) 2 2)) at hS
                generalize st5 V5 oy 0 (.int .i64 4) (.int .i64 0) (.string ⟨#[]⟩) (.slice none 0 0) (.slice (some ⟨ry, 0, none⟩) 2 2) = V6 at *
                refine wpAnyH_done (by kernel_rfl) ?_ _
                go_wp2_with fail
                go_meet
                exact ⟨_, _, _, _, _, _, _, _, _, _, _, _, rfl, rfl, hS, HTX2.out, HTY.out⟩
            · go_simp
              have hSn := hS.al (.cells #[.int .i64 0, .int .i64 0, .string ⟨#[]⟩, .slice none 0 0, .slice none 0 0] 25)
              have HZx := hideK (BXZ.new (be := be) hS.lt)
              have HNE := hideK (show oy ≠ V1.heap.size from by have := HZy.out.lt; omega)
              replace HZy := hideK (HZy.out.al (.cells #[.int .i64 0, .int .i64 0, .string ⟨#[]⟩, .slice none 0 0, .slice none 0 0] 25))
              refine hK.out _ _ hSn ?_
              clear hS hK K hSn
              intro hS
              generalize V1.heap.size = ox at *
              generalize World.alloc V1 (.cells #[.int .i64 0, .int .i64 0, .string ⟨#[]⟩, .slice none 0 0, .slice none 0 0] 25) = V2 at *
              refine wpAnyH_ready (rs := [2, 6]) (by kernel_rfl) (by simp) (AllReadyH.cons rfl (fun K hK => ?_) (AllReadyH.cons rfl (fun K hK => ?_) AllReadyH.nil))
              · go_simp
                have hSn := hS.al (.cells #[.int .i64 t.kind, .int .i64 t.so, .string t.name, .slice al t.labels.length cl, .slice ak t.kids.length ck, .int .i64 1, .int .i64 0, .string ⟨#[]⟩, .slice none 0 0, .slice none 0 0] 25)
                have HVx := hideK (tv_row hS.bl HT.out [ox, oy] (bs2 hS HZx.out HZy.out))
                replace HZy := hideK (HZy.out.al (.cells #[.int .i64 t.kind, .int .i64 t.so, .string t.name, .slice al t.labels.length cl, .slice ak t.kids.length ck, .int .i64 1, .int .i64 0, .string ⟨#[]⟩, .slice none 0 0, .slice none 0 0] 25))
                replace HZx := hideK (HZx.out.al (.cells #[.int .i64 t.kind, .int .i64 t.so, .string t.name, .slice al t.labels.length cl, .slice ak t.kids.length ck, .int .i64 1, .int .i64 0, .string ⟨#[]⟩, .slice none 0 0, .slice none 0 0] 25))
                refine hK.out _ _ hSn ?_
                clear hS hK K hSn
                intro hS
                generalize V2.heap.size = rx at *
                generalize World.alloc V2 (.cells #[.int .i64 t.kind, .int .i64 t.so, .string t.name, .slice al t.labels.length cl, .slice ak t.kids.length ck, .int .i64 1, .int .i64 0, .string ⟨#[]⟩, .slice none 0 0, .slice none 0 0] 25) = V3 at *
                refine wpAnyH_take (i := 3) (v := (.agg #[.int .i64 4, .int .i64 0, .string ⟨#[]⟩, .slice none 0 0, .slice (some ⟨rx, 0, none⟩) 2 2])) rfl (by kernel_rfl) (by kernel_rfl) (by kernel_rfl) (fun _ _ _ h => h) (Or.inl ⟨by rfl, fun W hW => by go_simp⟩) hS ?_
                refine wpAnyH_ready (rs := [6, 10]) (by kernel_rfl) (by simp) (AllReadyH.cons rfl (fun K hK => ?_) (AllReadyH.cons rfl (fun K hK => ?_) AllReadyH.nil))
                · go_simp
                  have hSn := hS.al (.cells #[.int .i64 s.kind, .int .i64 s.so, .string s.name, .slice sal s.labels.length scl, .slice sak s.kids.length sck, .int .i64 1, .int .i64 0, .string ⟨#[]⟩, .slice none 0 0, .slice none 0 0] 25)
                  have HVy := hideK (tv_row hS.bl HS.out [ox, oy] (bs2 hS HZx.out HZy.out))
                  replace HZy := hideK (HZy.out.al (.cells #[.int .i64 s.kind, .int .i64 s.so, .string s.name, .slice sal s.labels.length scl, .slice sak s.kids.length sck, .int .i64 1, .int .i64 0, .string ⟨#[]⟩, .slice none 0 0, .slice none 0 0] 25))
                  replace HZx := hideK (HZx.out.al (.cells #[.int .i64 s.kind, .int .i64 s.so, .string s.name, .slice sal s.labels.length scl, .slice sak s.kids.length sck, .int .i64 1, .int .i64 0, .string ⟨#[]⟩, .slice none 0 0, .slice none 0 0] 25))
                  replace HVx := hideK (HVx.out.al (.cells #[.int .i64 s.kind, .int .i64 s.so, .string s.name, .slice sal s.labels.length scl, .slice sak s.kids.length sck, .int .i64 1, .int .i64 0, .string ⟨#[]⟩, .slice none 0 0, .slice none 0 0] 25))
                  refine hK.out _ _ hSn ?_
                  clear hS hK K hSn
                  intro hS
                  generalize V3.heap.size = ry at *
                  generalize World.alloc V3 (.cells #[.int .i64 s.kind, .int .i64 s.so, .string s.name, .slice sal s.labels.length scl, .slice sak s.kids.length sck, .int .i64 1, .int .i64 0, .string ⟨#[]⟩, .slice none 0 0, .slice none 0 0] 25) = V4 at *
                  refine wpAnyH_take (i := 7) (v := (.agg #[.int .i64 4, .int .i64 0, .string ⟨#[]⟩, .slice none 0 0, .slice (some ⟨ry, 0, none⟩) 2 2])) rfl (by kernel_rfl) (by kernel_rfl) (by kernel_rfl) (fun _ _ _ h => h) (Or.inl ⟨by rfl, fun W hW => by go_simp⟩) hS ?_
                  refine take_oneHL 10 (AllReadyH.cons rfl (fun K hK => ?_) AllReadyH.nil) (by kernel_rfl)
                  obtain ⟨_, _, z0, z1, z2, z3, z4, zf⟩ := HZx.out
                  have f0 := zf 0
                  have f1 := zf 1
                  have f2 := zf 2
                  have f3 := zf 3
                  have f4 := zf 4
                  clear zf
                  have hSn := hS.st (b := ox) HZx.out.lo (.int .i64 4) (.int .i64 0) (.string ⟨#[]⟩) (.slice none 0 0) (.slice (some ⟨rx, 0, none⟩) 2 2)
                  have HOX := hideK HZx.out.lo
                  have HTX := hideK (HVx.out.st (b := ox) (by simp) (.int .i64 4) (.int .i64 0) (.string ⟨#[]⟩) (.slice none 0 0) (.slice (some ⟨rx, 0, none⟩) 2 2))
                  have HTA := hideK (show TyAt (st5 V4 ox 0 (.int .i64 4) (.int .i64 0) (.string ⟨#[]⟩) (.slice none 0 0) (.slice (some ⟨rx, 0, none⟩) 2 2)) ox 0 (gvT t) none 0 (some ⟨rx, 0, none⟩) 2 from HZx.out.ty (gvT t) none 0 (some ⟨rx, 0, none⟩) 2)
                  have HLX := hideK (show ox < (st5 V4 ox 0 (.int .i64 4) (.int .i64 0) (.string ⟨#[]⟩) (.slice none 0 0) (.slice (some ⟨rx, 0, none⟩) 2 2)).heap.size from by rw [st5_size]; exact HZx.out.lt)
                  replace HZy := hideK (HZy.out.st (b' := ox) HNE.out (.int .i64 4) (.int .i64 0) (.string ⟨#[]⟩) (.slice none 0 0) (.slice (some ⟨rx, 0, none⟩) 2 2))
                  replace HVy := hideK (HVy.out.st (b := ox) (by simp) (.int .i64 4) (.int .i64 0) (.string ⟨#[]⟩) (.slice none 0 0) (.slice (some ⟨rx, 0, none⟩) 2 2))
                  clear HVx HZx
                  go_simp
                  refine hK.out _ _ hSn ?_
                  clear hS hK K hSn z0 z1 z2 z3 z4 f0 f1 f2 f3 f4
                  intro hS
                  change wpAnyH _ _ _ _ _ _ _ _ (st5 V4 ox 0 (.int .i64 4) (.int .i64 0) (.string ⟨#[]⟩) (.slice none 0 0) (.slice (some ⟨rx, 0, none⟩) 2 2))
                  change CGW _ _ _ _ _ _ _ _ _ _ _ _ (st5 V4 ox 0 (.int .i64 4) (.int .i64 0) (.string ⟨#[]⟩) (.slice none 0 0) (.slice (some ⟨rx, 0, none⟩) 2 2)) at hS
                  generalize st5 V4 ox 0 (.int .i64 4) (.int .i64 0) (.string ⟨#[]⟩) (.slice none 0 0) (.slice (some ⟨rx, 0, none⟩) 2 2) = V5 at *
                  refine take_oneHL 11 (AllReadyH.cons rfl (fun K hK => ?_) AllReadyH.nil) (by kernel_rfl)
                  obtain ⟨_, _, z0, z1, z2, z3, z4, zf⟩ := HZy.out
                  have f0 := zf 0
                  have f1 := zf 1
                  have f2 := zf 2
                  have f3 := zf 3
                  have f4 := zf 4
                  clear zf
                  have hSn := hS.st (b := oy) HZy.out.lo (.int .i64 4) (.int .i64 0) (.string ⟨#[]⟩) (.slice none 0 0) (.slice (some ⟨ry, 0, none⟩) 2 2)
                  have HTY := hideK ((HVy.out.st (b := oy) (by simp) (.int .i64 4) (.int .i64 0) (.string ⟨#[]⟩) (.slice none 0 0) (.slice (some ⟨ry, 0, none⟩) 2 2)).tyb (show TyAt (st5 V5 oy 0 (.int .i64 4) (.int .i64 0) (.string ⟨#[]⟩) (.slice none 0 0) (.slice (some ⟨ry, 0, none⟩) 2 2)) oy 0 (gvT s) none 0 (some ⟨ry, 0, none⟩) 2 from HZy.out.ty (gvT s) none 0 (some ⟨ry, 0, none⟩) 2) (by rw [st5_size]; exact HZy.out.lt))
                  have HTX2 := hideK ((HTX.out.st (b := oy) (by simp) (.int .i64 4) (.int .i64 0) (.string ⟨#[]⟩) (.slice none 0 0) (.slice (some ⟨ry, 0, none⟩) 2 2)).tyb (tyAt_st (b := oy) HNE.out.symm (.int .i64 4) (.int .i64 0) (.string ⟨#[]⟩) (.slice none 0 0) (.slice (some ⟨ry, 0, none⟩) 2 2) HTA.out) (by rw [st5_size]; exact HLX.out))
                  clear HVy HZy HTX HTA HLX HOX
                  go_simp
                  refine hK.out _ _ hSn ?_
                  clear hS hK K hSn z0 z1 z2 z3 z4 f0 f1 f2 f3 f4
                  intro hS
                  change wpAnyH _ _ _ _ _ _ _ _ (st5 V5 oy 0 (.int .i64 4) (.int .i64 0) (.string ⟨#[]⟩) (.slice none 0 0) (.slice (some ⟨ry, 0, none⟩) 2 2))
                  change CGW _ _ _ _ _ _ _ _ _ _ _ _ (st5 V5 oy 0 (.int .i64 4) (.int .i64 0) (.string ⟨#[]⟩) (.slice none 0 0) (.slice (some ⟨ry, 0, none⟩) 2 2)) at hS
                  generalize st5 V5 oy 0 (.int .i64 4) (.int .i64 0) (.string ⟨#[]⟩) (.slice none 0 0) (.slice (some ⟨ry, 0, none⟩) 2 2) = V6 at *
                  refine wpAnyH_done (by kernel_rfl) ?_ _
                  go_wp2_with fail
                  go_meet
                  exact ⟨_, _, _, _, _, _, _, _, _, _, _, _, rfl, rfl, hS, HTX2.out, HTY.out⟩
                · obtain ⟨_, _, z0, z1, z2, z3, z4, zf⟩ := HZx.out
                  have f0 := zf 0
                  have f1 := zf 1
                  have f2 := zf 2
                  have f3 := zf 3
                  have f4 := zf 4
                  clear zf
                  have hSn := hS.st (b := ox) HZx.out.lo (.int .i64 4) (.int .i64 0) (.string ⟨#[]⟩) (.slice none 0 0) (.slice (some ⟨rx, 0, none⟩) 2 2)
                  have HOX := hideK HZx.out.lo
                  have HTX := hideK (HVx.out.st (b := ox) (by simp) (.int .i64 4) (.int .i64 0) (.string ⟨#[]⟩) (.slice none 0 0) (.slice (some ⟨rx, 0, none⟩) 2 2))
                  have HTA := hideK (show TyAt (st5 V3 ox 0 (.int .i64 4) (.int .i64 0) (.string ⟨#[]⟩) (.slice none 0 0) (.slice (some ⟨rx, 0, none⟩) 2 2)) ox 0 (gvT t) none 0 (some ⟨rx, 0, none⟩) 2 from HZx.out.ty (gvT t) none 0 (some ⟨rx, 0, none⟩) 2)
                  have HLX := hideK (show ox < (st5 V3 ox 0 (.int .i64 4) (.int .i64 0) (.string ⟨#[]⟩) (.slice none 0 0) (.slice (some ⟨rx, 0, none⟩) 2 2)).heap.size from by rw [st5_size]; exact HZx.out.lt)
                  replace HZy := hideK (HZy.out.st (b' := ox) HNE.out (.int .i64 4) (.int .i64 0) (.string ⟨#[]⟩) (.slice none 0 0) (.slice (some ⟨rx, 0, none⟩) 2 2))
                  clear HVx HZx
                  go_simp
                  refine hK.out _ _ hSn ?_
                  clear hS hK K hSn z0 z1 z2 z3 z4 f0 f1 f2 f3 f4
                  intro hS
                  change wpAnyH _ _ _ _ _ _ _ _ (st5 V3 ox 0 (.int .i64 4) (.int .i64 0) (.string ⟨#[]⟩) (.slice none 0 0) (.slice (some ⟨rx, 0, none⟩) 2 2))
                  change CGW _ _ _ _ _ _ _ _ _ _ _ _ (st5 V3 ox 0 (.int .i64 4) (.int .i64 0) (.string ⟨#[]⟩) (.slice none 0 0) (.slice (some ⟨rx, 0, none⟩) 2 2)) at hS
                  generalize st5 V3 ox 0 (.int .i64 4) (.int .i64 0) (.string ⟨#[]⟩) (.slice none 0 0) (.slice (some ⟨rx, 0, none⟩) 2 2) = V4 at *
                  refine take_oneHL 6 (AllReadyH.cons rfl (fun K hK => ?_) AllReadyH.nil) (by kernel_rfl)
                  go_simp
                  have hSn := hS.al (.cells #[.int .i64 s.kind, .int .i64 s.so, .string s.name, .slice sal s.labels.length scl, .slice sak s.kids.length sck, .int .i64 1, .int .i64 0, .string ⟨#[]⟩, .slice none 0 0, .slice none 0 0] 25)
                  have HVy := hideK (tv_row hS.bl HS.out [ox, oy] (bsA hS HOX.out HLX.out HZy.out))
                  replace HZy := hideK (HZy.out.al (.cells #[.int .i64 s.kind, .int .i64 s.so, .string s.name, .slice sal s.labels.length scl, .slice sak s.kids.length sck, .int .i64 1, .int .i64 0, .string ⟨#[]⟩, .slice none 0 0, .slice none 0 0] 25))
                  replace HTX := hideK (HTX.out.al (.cells #[.int .i64 s.kind, .int .i64 s.so, .string s.name, .slice sal s.labels.length scl, .slice sak s.kids.length sck, .int .i64 1, .int .i64 0, .string ⟨#[]⟩, .slice none 0 0, .slice none 0 0] 25))
                  replace HTA := hideK (HTA.out.keep ((Below.refl _ _).alloc (Nat.le_refl _) (.cells #[.int .i64 s.kind, .int .i64 s.so, .string s.name, .slice sal s.labels.length scl, .slice sak s.kids.length sck, .int .i64 1, .int .i64 0, .string ⟨#[]⟩, .slice none 0 0, .slice none 0 0] 25)) HLX.out)
                  replace HLX := hideK (show ox < (World.alloc V4 (.cells #[.int .i64 s.kind, .int .i64 s.so, .string s.name, .slice sal s.labels.length scl, .slice sak s.kids.length sck, .int .i64 1, .int .i64 0, .string ⟨#[]⟩, .slice none 0 0, .slice none 0 0] 25)).heap.size from by have := HLX.out; simp; omega)
                  refine hK.out _ _ hSn ?_
                  clear hS hK K hSn
                  intro hS
                  generalize V4.heap.size = ry at *
                  generalize World.alloc V4 (.cells #[.int .i64 s.kind, .int .i64 s.so, .string s.name, .slice sal s.labels.length scl, .slice sak s.kids.length sck, .int .i64 1, .int .i64 0, .string ⟨#[]⟩, .slice none 0 0, .slice none 0 0] 25) = V5 at *
                  refine wpAnyH_take (i := 7) (v := (.agg #[.int .i64 4, .int .i64 0, .string ⟨#[]⟩, .slice none 0 0, .slice (some ⟨ry, 0, none⟩) 2 2])) rfl (by kernel_rfl) (by kernel_rfl) (by kernel_rfl) (fun _ _ _ h => h) (Or.inl ⟨by rfl, fun W hW => by go_simp⟩) hS ?_
                  refine take_oneHL 11 (AllReadyH.cons rfl (fun K hK => ?_) AllReadyH.nil) (by kernel_rfl)
                  obtain ⟨_, _, z0, z1, z2, z3, z4, zf⟩ := HZy.out
                  have f0 := zf 0
                  have f1 := zf 1
                  have f2 := zf 2
                  have f3 := zf 3
                  have f4 := zf 4
                  clear zf
                  have hSn := hS.st (b := oy) HZy.out.lo (.int .i64 4) (.int .i64 0) (.string ⟨#[]⟩) (.slice none 0 0) (.slice (some ⟨ry, 0, none⟩) 2 2)
                  have HTY := hideK ((HVy.out.st (b := oy) (by simp) (.int .i64 4) (.int .i64 0) (.string ⟨#[]⟩) (.slice none 0 0) (.slice (some ⟨ry, 0, none⟩) 2 2)).tyb (show TyAt (st5 V5 oy 0 (.int .i64 4) (.int .i64 0) (.string ⟨#[]⟩) (.slice none 0 0) (.slice (some ⟨ry, 0, none⟩) 2 2)) oy 0 (gvT s) none 0 (some ⟨ry, 0, none⟩) 2 from HZy.out.ty (gvT s) none 0 (some ⟨ry, 0, none⟩) 2) (by rw [st5_size]; exact HZy.out.lt))
                  have HTX2 := hideK ((HTX.out.st (b := oy) (by simp) (.int .i64 4) (.int .i64 0) (.string ⟨#[]⟩) (.slice none 0 0) (.slice (some ⟨ry, 0, none⟩) 2 2)).tyb (tyAt_st (b := oy) HNE.out.symm (.int .i64 4) (.int .i64 0) (.string ⟨#[]⟩) (.slice none 0 0) (.slice (some ⟨ry, 0, none⟩) 2 2) HTA.out) (by rw [st5_size]; exact HLX.out))
                  clear HVy HZy HTX HTA HLX HOX
                  go_simp
                  refine hK.out _ _ hSn ?_
                  clear hS hK K hSn z0 z1 z2 z3 z4 f0 f1 f2 f3 f4
                  intro hS
                  change wpAnyH _ _ _ _ _ _ _ _ (st5 V5 oy 0 (.int .i64 4) (.int .i64 0) (.string ⟨#[]⟩) (.slice none 0 0) (.slice (some ⟨ry, 0, none⟩) 2 2))
                  change CGW _ _ _ _ _ _ _ _ _ _ _ _ (st5 V5 oy 0 (.int .i64 4) (.int .i64 0) (.string ⟨#[]⟩) (.slice none 0 0) (.slice (some ⟨ry, 0, none⟩) 2 2)) at hS
                  generalize st5 V5 oy 0 (.int .i64 4) (.int .i64 0) (.string ⟨#[]⟩) (.slice none 0 0) (.slice (some ⟨ry, 0, none⟩) 2 2) = V6 at *
                  refine wpAnyH_done (by kernel_rfl) ?_ _
                  go_wp2_with fail
                  go_meet
                  exact ⟨_, _, _, _, _, _, _, _, _, _, _, _, rfl, rfl, hS, HTX2.out, HTY.out⟩
              · go_simp
                have hSn := hS.al (.cells #[.int .i64 s.kind, .int .i64 s.so, .string s.name, .slice sal s.labels.length scl, .slice sak s.kids.length sck, .int .i64 1, .int .i64 0, .string ⟨#[]⟩, .slice none 0 0, .slice none 0 0] 25)
                have HVy := hideK (tv_row hS.bl HS.out [ox, oy] (bs2 hS HZx.out HZy.out))
                replace HZy := hideK (HZy.out.al (.cells #[.int .i64 s.kind, .int .i64 s.so, .string s.name, .slice sal s.labels.length scl, .slice sak s.kids.length sck, .int .i64 1, .int .i64 0, .string ⟨#[]⟩, .slice none 0 0, .slice none 0 0] 25))
                replace HZx := hideK (HZx.out.al (.cells #[.int .i64 s.kind, .int .i64 s.so, .string s.name, .slice sal s.labels.length scl, .slice sak s.kids.length sck, .int .i64 1, .int .i64 0, .string ⟨#[]⟩, .slice none 0 0, .slice none 0 0] 25))
                refine hK.out _ _ hSn ?_
                clear hS hK K hSn
                intro hS
                generalize V2.heap.size = ry at *
                generalize World.alloc V2 (.cells #[.int .i64 s.kind, .int .i64 s.so, .string s.name, .slice sal s.labels.length scl, .slice sak s.kids.length sck, .int .i64 1, .int .i64 0, .string ⟨#[]⟩, .slice none 0 0, .slice none 0 0] 25) = V3 at *
                refine wpAnyH_take (i := 7) (v := (.agg #[.int .i64 4, .int .i64 0, .string ⟨#[]⟩, .slice none 0 0, .slice (some ⟨ry, 0, none⟩) 2 2])) rfl (by kernel_rfl) (by kernel_rfl) (by kernel_rfl) (fun _ _ _ h => h) (Or.inl ⟨by rfl, fun W hW => by go_simp⟩) hS ?_
                refine take_oneHL 2 (AllReadyH.cons rfl (fun K hK => ?_) AllReadyH.nil) (by kernel_rfl)
                go_simp
                have hSn := hS.al (.cells #[.int .i64 t.kind, .int .i64 t.so, .string t.name, .slice al t.labels.length cl, .slice ak t.kids.length ck, .int .i64 1, .int .i64 0, .string ⟨#[]⟩, .slice none 0 0, .slice none 0 0] 25)
                have HVx := hideK (tv_row hS.bl HT.out [ox, oy] (bs2 hS HZx.out HZy.out))
                replace HZy := hideK (HZy.out.al (.cells #[.int .i64 t.kind, .int .i64 t.so, .string t.name, .slice al t.labels.length cl, .slice ak t.kids.length ck, .int .i64 1, .int .i64 0, .string ⟨#[]⟩, .slice none 0 0, .slice none 0 0] 25))
                replace HZx := hideK (HZx.out.al (.cells #[.int .i64 t.kind, .int .i64 t.so, .string t.name, .slice al t.labels.length cl, .slice ak t.kids.length ck, .int .i64 1, .int .i64 0, .string ⟨#[]⟩, .slice none 0 0, .slice none 0 0] 25))
                replace HVy := hideK (HVy.out.al (.cells #[.int .i64 t.kind, .int .i64 t.so, .string t.name, .slice al t.labels.length cl, .slice ak t.kids.length ck, .int .i64 1, .int .i64 0, .string ⟨#[]⟩, .slice none 0 0, .slice none 0 0] 25))
                refine hK.out _ _ hSn ?_
                clear hS hK K hSn
                intro hS
                generalize V3.heap.size = rx at *
                generalize World.alloc V3 (.cells #[.int .i64 t.kind, .int .i64 t.so, .string t.name, .slice al t.labels.length cl, .slice ak t.kids.length ck, .int .i64 1, .int .i64 0, .string ⟨#[]⟩, .slice none 0 0, .slice none 0 0] 25) = V4 at *
                refine wpAnyH_take (i := 3) (v := (.agg #[.int .i64 4, .int .i64 0, .string ⟨#[]⟩, .slice none 0 0, .slice (some ⟨rx, 0, none⟩) 2 2])) rfl (by kernel_rfl) (by kernel_rfl) (by kernel_rfl) (fun _ _ _ h => h) (Or.inl ⟨by rfl, fun W hW => by go_simp⟩) hS ?_
                refine take_oneHL 10 (AllReadyH.cons rfl (fun K hK => ?_) AllReadyH.nil) (by kernel_rfl)
                obtain ⟨_, _, z0, z1, z2, z3, z4, zf⟩ := HZx.out
                have f0 := zf 0
                have f1 := zf 1
                have f2 := zf 2
                have f3 := zf 3
                have f4 := zf 4
                clear zf
                have hSn := hS.st (b := ox) HZx.out.lo (.int .i64 4) (.int .i64 0) (.string ⟨#[]⟩) (.slice none 0 0) (.slice (some ⟨rx, 0, none⟩) 2 2)
                have HOX := hideK HZx.out.lo
                have HTX := hideK (HVx.out.st (b := ox) (by simp) (.int .i64 4) (.int .i64 0) (.string ⟨#[]⟩) (.slice none 0 0) (.slice (some ⟨rx, 0, none⟩) 2 2))
                have HTA := hideK (show TyAt (st5 V4 ox 0 (.int .i64 4) (.int .i64 0) (.string ⟨#[]⟩) (.slice none 0 0) (.slice (some ⟨rx, 0, none⟩) 2 2)) ox 0 (gvT t) none 0 (some ⟨rx, 0, none⟩) 2 from HZx.out.ty (gvT t) none 0 (some ⟨rx, 0, none⟩) 2)
                have HLX := hideK (show ox < (st5 V4 ox 0 (.int .i64 4) (.int .i64 0) (.string ⟨#[]⟩) (.slice none 0 0) (.slice (some ⟨rx, 0, none⟩) 2 2)).heap.size from by rw [st5_size]; exact HZx.out.lt)
                replace HZy := hideK (HZy.out.st (b' := ox) HNE.out (.int .i64 4) (.int .i64 0) (.string ⟨#[]⟩) (.slice none 0 0) (.slice (some ⟨rx, 0, none⟩) 2 2))
                replace HVy := hideK (HVy.out.st (b := ox) (by simp) (.int .i64 4) (.int .i64 0) (.string ⟨#[]⟩) (.slice none 0 0) (.slice (some ⟨rx, 0, none⟩) 2 2))
                clear HVx HZx
                go_simp
                refine hK.out _ _ hSn ?_
                clear hS hK K hSn z0 z1 z2 z3 z4 f0 f1 f2 f3 f4
                intro hS
                change wpAnyH _ _ _ _ _ _ _ _ (st5 V4 ox 0 (.int .i64 4) (.int .i64 0) (.string ⟨#[]⟩) (.slice none 0 0) (.slice (some ⟨rx, 0, none⟩) 2 2))
                change CGW _ _ _ _ _ _ _ _ _ _ _ _ (st5 V4 ox 0 (.int .i64 4) (.int .i64 0) (.string ⟨#[]⟩) (.slice none 0 0) (.slice (some ⟨rx, 0, none⟩) 2 2)) at hS
                generalize st5 V4 ox 0 (.int .i64 4) (.int .i64 0) (.string ⟨#[]⟩) (.slice none 0 0) (.slice (some ⟨rx, 0, none⟩) 2 2) = V5 at *
                refine take_oneHL 11 (AllReadyH.cons rfl (fun K hK => ?_) AllReadyH.nil) (by kernel_rfl)
                obtain ⟨_, _, z0, z1, z2, z3, z4, zf⟩ := HZy.out
                have f0 := zf 0
                have f1 := zf 1
                have f2 := zf 2
                have f3 := zf 3
                have f4 := zf 4
                clear zf
                have hSn := hS.st (b := oy) HZy.out.lo (.int .i64 4) (.int .i64 0) (.string ⟨#[]⟩) (.slice none 0 0) (.slice (some ⟨ry, 0, none⟩) 2 2)
                have HTY := hideK ((HVy.out.st (b := oy) (by simp) (.int .i64 4) (.int .i64 0) (.string ⟨#[]⟩) (.slice none 0 0) (.slice (some ⟨ry, 0, none⟩) 2 2)).tyb (show TyAt (st5 V5 oy 0 (.int .i64 4) (.int .i64 0) (.string ⟨#[]⟩) (.slice none 0 0) (.slice (some ⟨ry, 0, none⟩) 2 2)) oy 0 (gvT s) none 0 (some ⟨ry, 0, none⟩) 2 from HZy.out.ty (gvT s) none 0 (some ⟨ry, 0, none⟩) 2) (by rw [st5_size]; exact HZy.out.lt))
                have HTX2 := hideK ((HTX.out.st (b := oy) (by simp) (.int .i64 4) (.int .i64 0) (.string ⟨#[]⟩) (.slice none 0 0) (.slice (some ⟨ry, 0, none⟩) 2 2)).tyb (tyAt_st (b := oy) HNE.out.symm (.int .i64 4) (.int .i64 0) (.string ⟨#[]⟩) (.slice none 0 0) (.slice (some ⟨ry, 0, none⟩) 2 2) HTA.out) (by rw [st5_size]; exact HLX.out))
                clear HVy HZy HTX HTA HLX HOX
                go_simp
                refine hK.out _ _ hSn ?_
                clear hS hK K hSn z0 z1 z2 z3 z4 f0 f1 f2 f3 f4
                intro hS
                change wpAnyH _ _ _ _ _ _ _ _ (st5 V5 oy 0 (.int .i64 4) (.int .i64 0) (.string ⟨#[]⟩) (.slice none 0 0) (.slice (some ⟨ry, 0, none⟩) 2 2))
                change CGW _ _ _ _ _ _ _ _ _ _ _ _ (st5 V5 oy 0 (.int .i64 4) (.int .i64 0) (.string ⟨#[]⟩) (.slice none 0 0) (.slice (some ⟨ry, 0, none⟩) 2 2)) at hS
                generalize st5 V5 oy 0 (.int .i64 4) (.int .i64 0) (.string ⟨#[]⟩) (.slice none 0 0) (.slice (some ⟨ry, 0, none⟩) 2 2) = V6 at *
                refine wpAnyH_done (by kernel_rfl) ?_ _
                go_wp2_with fail
                go_meet
                exact ⟨_, _, _, _, _, _, _, _, _, _, _, _, rfl, rfl, hS, HTX2.out, HTY.out⟩
        case rest =>
          obtain ⟨ox, oy, ax, cx, kx, nx, dx, ay, cy, ky, ny, dy, rfl, rfl, hG2, hX, hY⟩ := hcut
          generalize gvT t = mx at *
          generalize gvT s = my at *
          have c1 := refType_any dx mx ax cx kx nx wc hX.2.2.1.w hX.2.2.2.1 hX.2.2.2.2
          unfold RTPost at c1
          simp only [tyVal] at c1
          obtain ⟨x0, x1, x2, x3, x4⟩ := hX.1
          simp only [Nat.zero_add] at x1 x2 x3 x4
          have G3 := hideK hG2
          have HX := hideK hX
          have HY := hideK hY
          clear hG2 hX hY HG
          go_wp2_with fail
          refine c1.mono ?_
          rintro e w4 ⟨⟨z, rfl, hz⟩, hb4⟩
          have G4 := hideK (G3.out.keep hb4)
          have HX4 := hideK (HX.out.keep hb4)
          have HY4 := hideK (HY.out.keep hb4)
          have HZ1 := hideK hz
          clear c1 hb4 hz x0 x1 x2 x3 x4 G3 HX HY
          by_cases hz0 : z = 0
          · have HC1 := hideK (HZ1.out.1 hz0)
            subst hz0
            clear HZ1
            have c2 := refType_any dy my ay cy ky ny w4 HY4.out.2.2.1.w HY4.out.2.2.2.1 HY4.out.2.2.2.2
            unfold RTPost at c2
            simp only [tyVal] at c2
            obtain ⟨x0, x1, x2, x3, x4⟩ := HY4.out.1
            simp only [Nat.zero_add] at x1 x2 x3 x4
            go_wp2_with fail
            refine c2.mono ?_
            rintro e w5 ⟨⟨z2, rfl, hz2⟩, hb5⟩
            have G5 := hideK (G4.out.keep hb5)
            have HX5 := hideK (HX4.out.keep hb5)
            have HY5 := hideK (HY4.out.keep hb5)
            have HZ2 := hideK hz2
            clear c2 hb5 hz2 x0 x1 x2 x3 x4 G4 HX4 HY4
            by_cases hz20 : z2 = 0
            · have HC2 := hideK (HZ2.out.1 hz20)
              subst hz20
              clear HZ2
              have c3 := isGood HC1.out HC2.out (is_any dx dy mx my ax cx kx nx ay cy ky ny w5 HX5.out.2.2.1 HX5.out.2.2.2.1 HX5.out.2.2.2.2 HY5.out.2.2.1 HY5.out.2.2.2.1 HY5.out.2.2.2.2)
              simp only [tyVal] at c3
              obtain ⟨x0, x1, x2, x3, x4⟩ := HX5.out.1
              obtain ⟨y0, y1, y2, y3, y4⟩ := HY5.out.1
              simp only [Nat.zero_add] at x1 x2 x3 x4 y1 y2 y3 y4
              go_wp2_with fail
              refine c3.mono ?_
              rintro e w6 ⟨⟨bb, rfl, hbb⟩, hb6⟩
              have G6 := hideK (G5.out.keep hb6)
              have HEQ := hideK (show bb = ok from by
                obtain ⟨g, hg⟩ := OFG_ex HZ.out.1
                obtain ⟨h, hh⟩ := OFG_ex HZ.out.2
                obtain ⟨g', hg'⟩ := OFG_ex HC1.out
                obtain ⟨h', hh'⟩ := OFG_ex HC2.out
                have h1 : bb = true ↔ ok = true := hbb.trans ((HBG.out g h g' h' hg hh hg' hh').trans HOK.out.symm)
                cases bb <;> cases ok <;> simp at h1 ⊢)
              clear c3 hb6 hbb x0 x1 x2 x3 x4 y0 y1 y2 y3 y4 G5 HX5 HY5
              have he := HEQ.out
              subst he
              clear HEQ HOK HBG HC1 HC2
              cases bb
              all_goals
                go_wp2_with fail
                go_ret
                exact ⟨rfl, G6.out.bl⟩
            · have hz2b : (z2 != 0) = true := by simp [hz20]
              clear HZ2
              go_wp2_with fail
              go_ret
              exact ⟨rfl, G5.out.bl⟩
          · have hz1b : (z != 0) = true := by simp [hz0]
            clear HZ1
            go_wp2_with fail
            go_ret
            exact ⟨rfl, G4.out.bl⟩
  · have C1 := hideK (fun (W : World) (hb : Below w.heap.size w W) => isBad (by by_cases q : chkTy s = 0; exact .inr (fun q2 => hz ⟨q, q2⟩); exact .inl q) (is_any ds dt s t sal scl sak sck al cl ak ck W hs1 ((hs2.keep hb).mono hb.size) ((hs3.keep hb).mono hb.size) ht1 ((ht2.keep hb).mono hb.size) ((ht3.keep hb).mono hb.size)))
    simp only [tyVal] at C1 ⊢
    clear hs1 hs2 hs3 ht1 ht2 ht3 hz
    go_enter Tryd.func4, Tryd.ntmps4
    go_wp2_with fail
    refine (CE.out _).mono ?_
    rintro e w1 ⟨rfl, hb1⟩
    have Q1 := hideK (Q0.out.keep hb1)
    clear hb1 x0 x1 x2 x3 x4 y0 y1 y2 y3 y4
    obtain ⟨x0, x1, x2, x3, x4⟩ := Q1.out.x
    obtain ⟨y0, y1, y2, y3, y4⟩ := Q1.out.y
    simp only [Nat.zero_add] at x1 x2 x3 x4 y1 y2 y3 y4
    go_wp2_with fail
    refine (C1.out _ Q1.out.bl).mono ?_
    rintro e w2 ⟨⟨z, hz, rfl⟩, hb2⟩
    have HB2 := hideK (Q1.out.keep hb2).bl
    clear hb2 x0 x1 x2 x3 x4 y0 y1 y2 y3 y4
    go_wp2_with fail
    go_ret
    exact ⟨rfl, HB2.out⟩
end Go.Proofs.YtoieacgojkgjgabDoor
