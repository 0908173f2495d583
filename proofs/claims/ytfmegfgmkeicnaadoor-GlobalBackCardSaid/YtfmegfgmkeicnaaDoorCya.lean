/-
  The contracts of slices.Equal of the same names and of duetref.SameGlobal of the same conversation, wherever they lie.
-/
import Derived.Test.YtfmegfgmkeicnaaDoorCxp
import Derived.Test.YtfmegfgmkeicnaaDoorBxs
import Derived.Test.YtfmegfgmkeicnaaDoorKf
namespace Go.Proofs.YtfmegfgmkeicnaaDoor
open Go.RowKit Go.Shelf
/-- two texts in memory -/
structure TwS (b o b2 o2 : Nat) (l l2 : ByteArray) (w W : World) : Prop where
  x : W.cell? ⟨b, o, none⟩ = some (.string l)
  y : W.cell? ⟨b2, o2, none⟩ = some (.string l2)
  bl : Below w.heap.size w W
section
variable {P : Program} {ops : Array Oper} {S : World → Prop} {R : Act → Prop} {l : List Nat} {o : Oper} {a a' : Act}
theorem qS2 {v : Value} {b o1 b2 o2 : Nat} {s s2 : ByteArray} {w0 : World} (hS : ∀ W, S W → TwS b o1 b2 o2 s s2 w0 W) (h : SeqS P ops S R l a') (hw : Region.wanted o (yielded ops a.tmps) = true := by rfl) (hy : ∀ w, TwS b o1 b2 o2 s s2 w0 w → S w → o.wp P a w (KV v a o.dst S) QF := by intro W hW hW2; obtain ⟨x0, x1, x2⟩ := hW; go_simp; exact KV.mk hW2) (hn : a.put o.dst v = a' := by simp only [Act.put, uA, uB, uC]; rfl) : StepS P ops S R o l a := fun _ ho => SeqS.one v ho hw (fun w hw => hy w (hS w hw) hw) (hn ▸ h)
end
set_option maxRecDepth 100000 in
set_option maxHeartbeats 2000000 in
theorem equalS_any (ls : List ByteArray) (al : Option Addr) (cl : Nat) (al2 : Option Addr) (cl2 B : Nat) (w : World) (hl : ls.length ≤ 9223372036854775807) (h : LA w B ls al) (h2 : LA w B ls al2) (hB : B ≤ w.heap.size) :
    Calls Tryd.prog 29 #[.slice al ls.length cl, .slice al2 ls.length cl2] w fun e w' => e = .returned (.bool true) ∧ Below w.heap.size w w' := by
  have hlz : (ls.length : Int) ≤ 9223372036854775807 := by omega
  have HL := hideK h
  have HL2 := hideK h2
  clear h h2
  go_enter Tryd.func29, Tryd.ntmps29
  go_wp2_with fail
  go_loopw [13] (fun i wr => ∃ k : Nat, k ≤ ls.length ∧ i = .int .i64 (k : Int) ∧ Below w.heap.size w wr) (fun i _ => ls.length - (intOf i).toNat)
  case atStart => exact ⟨0, Nat.zero_le _, rfl, Below.refl _ _⟩
  case round =>
    obtain ⟨k, hk, rfl, hbr⟩ := hrel
    have HBR := hideK hbr
    by_cases hlt : k < ls.length
    · have hltz : (k : Int) < (ls.length : Int) := by omega
      have hl1 := HL.out
      have hl2 := HL2.out
      rcases hl1 with e | ⟨b, o, rfl, hbB, hc⟩
      · simp at e; subst e; simp at hlt
      · rcases hl2 with e | ⟨b2, o2, rfl, hbB2, hc2⟩
        · simp at e; subst e; simp at hlt
        · have y := (hbr.drew.cell (p := ⟨b, o + k, none⟩) (by show b < w.heap.size; omega)).trans (hc k (by simpa using hlt))
          have z := (hbr.drew.cell (p := ⟨b2, o2 + k, none⟩) (by show b2 < w.heap.size; omega)).trans (hc2 k (by simpa using hlt))
          simp only [List.getElem_map] at y z
          generalize ls[k] = l at *
          have hll2 : (l.toList == l.toList) = true := by simp
          have HS : Hid (TwS b (o + k) b2 (o2 + k) l l w wr.drew) := ⟨y, z, hbr.drew⟩
          clear hc hc2 hbr HL HL2 y z
          go_upto_region 6 with fail
          refine region_seq (TwS b (o + k) b2 (o2 + k) l l w) [0, 1, 2, 3, 4, 5, 6, 7, 8] (by kernel_rfl) (by kernel_rfl) (by kernel_rfl) HS.out ?_
          repeat (refine qO ?_; first | refine qN ?_ | refine qV ?_ | refine qS2 (fun W hW => hW) ?_)
          refine SeqS.done ?_
          intro W2 hW2
          have HW2 := hideK hW2
          clear hW2
          go_wp2_with fail
          go_roundw
          case rel => exact ⟨k + 1, by omega, by go_num, HW2.out.bl⟩
          case measure => simp [intOf]; omega
    · have hltz : ¬ (k : Int) < (ls.length : Int) := by omega
      clear hbr HL HL2
      go_wp2_with fail
      go_ret
      exact ⟨rfl, HBR.out⟩
/-- two conversations in blocks of their own -/
structure SS2 (t u : Cv) (al : Option Addr) (cl : Nat) (ak : Option Addr) (ck : Nat) (al2 : Option Addr) (cl2 : Nat) (ak2 : Option Addr) (ck2 : Nat) (w W : World) : Prop where
  x : CvAt W w.heap.size 0 t al cl ak ck
  y : CvAt W (w.heap.size + 1) 0 u al2 cl2 ak2 ck2
  lt : w.heap.size + 1 < W.heap.size
  bl : Below w.heap.size w W
theorem SS2.keep {t u : Cv} {al : Option Addr} {cl : Nat} {ak : Option Addr} {ck : Nat} {al2 : Option Addr} {cl2 : Nat} {ak2 : Option Addr} {ck2 : Nat} {w W W' : World} (h : SS2 t u al cl ak ck al2 cl2 ak2 ck2 w W) (hb : Below W.heap.size W W') : SS2 t u al cl ak ck al2 cl2 ak2 ck2 w W' :=
  ⟨h.x.keep hb (by have := h.lt; omega), h.y.keep hb h.lt, Nat.lt_of_lt_of_le h.lt hb.size, h.bl.trans (hb.mono h.bl.size)⟩
theorem SS2.all {t u : Cv} {al : Option Addr} {cl : Nat} {ak : Option Addr} {ck : Nat} {al2 : Option Addr} {cl2 : Nat} {ak2 : Option Addr} {ck2 : Nat} {w W : World} (h : SS2 t u al cl ak ck al2 cl2 ak2 ck2 w W) :
    W.cell? ⟨w.heap.size, 0, none⟩ = some (.int .i64 t.kind) ∧ W.cell? ⟨w.heap.size, 1, none⟩ = some (.string t.fm) ∧ W.cell? ⟨w.heap.size, 2, none⟩ = some (.string t.tt) ∧ W.cell? ⟨w.heap.size, 3, none⟩ = some (.int .i64 t.so) ∧ W.cell? ⟨w.heap.size, 4, none⟩ = some (.string t.name) ∧ W.cell? ⟨w.heap.size, 5, none⟩ = some (.slice al t.labels.length cl) ∧ W.cell? ⟨w.heap.size, 6, none⟩ = some (.slice ak t.kids.length ck) ∧
    W.cell? ⟨w.heap.size + 1, 0, none⟩ = some (.int .i64 u.kind) ∧ W.cell? ⟨w.heap.size + 1, 1, none⟩ = some (.string u.fm) ∧ W.cell? ⟨w.heap.size + 1, 2, none⟩ = some (.string u.tt) ∧ W.cell? ⟨w.heap.size + 1, 3, none⟩ = some (.int .i64 u.so) ∧ W.cell? ⟨w.heap.size + 1, 4, none⟩ = some (.string u.name) ∧ W.cell? ⟨w.heap.size + 1, 5, none⟩ = some (.slice al2 u.labels.length cl2) ∧ W.cell? ⟨w.heap.size + 1, 6, none⟩ = some (.slice ak2 u.kids.length ck2) := by
  obtain ⟨⟨e0, e1, e2, e3, e4, e5, e6⟩, ⟨f0, f1, f2, f3, f4, f5, f6⟩, _, _⟩ := h
  simp only [Nat.zero_add] at e1 e2 e3 e4 e5 e6 f1 f2 f3 f4 f5 f6
  exact ⟨e0, e1, e2, e3, e4, e5, e6, f0, f1, f2, f3, f4, f5, f6⟩
def SGSaid (d : Nat) : Prop := ∀ (t : Cv) (al : Option Addr) (cl : Nat) (ak : Option Addr) (ck : Nat) (al2 : Option Addr) (cl2 : Nat) (ak2 : Option Addr) (ck2 B : Nat) (w : World),
  CvBd t cl ck → CvBd t cl2 ck2 → LA w B t.labels al → LA w B t.labels al2 → KCv w B d t.kids ak → KCv w B d t.kids ak2 → B ≤ w.heap.size →
  Calls Tryd.prog 9 #[valCv t al cl ak ck, valCv t al2 cl2 ak2 ck2] w fun e w' => e = .returned (.bool true) ∧ Below w.heap.size w w'
section
variable {P : Program} {ops : Array Oper} {S : World → Prop} {R : Act → Prop} {l : List Nat} {o : Oper} {a a' : Act}
theorem qSS {v : Value} {t u : Cv} {al : Option Addr} {cl : Nat} {ak : Option Addr} {ck : Nat} {al2 : Option Addr} {cl2 : Nat} {ak2 : Option Addr} {ck2 : Nat} {w0 : World} (hS : ∀ W, S W → SS2 t u al cl ak ck al2 cl2 ak2 ck2 w0 W) (h : SeqS P ops S R l a') (hw : Region.wanted o (yielded ops a.tmps) = true := by rfl) (hy : ∀ w, SS2 t u al cl ak ck al2 cl2 ak2 ck2 w0 w → S w → o.wp P a w (KV v a o.dst S) QF := by intro W hW hW2; obtain ⟨x0, x1, x2, x3, x4, x5, x6, x7, x8, x9, x10, x11, x12, x13⟩ := hW.all; go_simp; exact KV.mk hW2) (hn : a.put o.dst v = a' := by simp only [Act.put, uA, uB, uC]; rfl) : StepS P ops S R o l a := fun _ ho => SeqS.one v ho hw (fun w hw => hy w (hS w hw) hw) (hn ▸ h)
end
/-- besides: one of the parts of each -/
structure SGK (t : Cv) (al : Option Addr) (cl : Nat) (ak : Option Addr) (ck : Nat) (al2 : Option Addr) (cl2 : Nat) (ak2 : Option Addr) (ck2 : Nat) (u : Cv) (b o b2 o2 : Nat) (pl : Option Addr) (ql : Nat) (pk : Option Addr) (qk : Nat) (pl2 : Option Addr) (ql2 : Nat) (pk2 : Option Addr) (qk2 : Nat) (w W : World) : Prop where
  s : SS2 t t al cl ak ck al2 cl2 ak2 ck2 w W
  kx : CvAt W b o u pl ql pk qk
  ky : CvAt W b2 o2 u pl2 ql2 pk2 qk2
  lx : b < W.heap.size
  ly : b2 < W.heap.size
theorem SGK.keep {t : Cv} {al : Option Addr} {cl : Nat} {ak : Option Addr} {ck : Nat} {al2 : Option Addr} {cl2 : Nat} {ak2 : Option Addr} {ck2 : Nat} {u : Cv} {b o b2 o2 : Nat} {pl : Option Addr} {ql : Nat} {pk : Option Addr} {qk : Nat} {pl2 : Option Addr} {ql2 : Nat} {pk2 : Option Addr} {qk2 : Nat} {w W W' : World} (h : SGK t al cl ak ck al2 cl2 ak2 ck2 u b o b2 o2 pl ql pk qk pl2 ql2 pk2 qk2 w W) (hb : Below W.heap.size W W') : SGK t al cl ak ck al2 cl2 ak2 ck2 u b o b2 o2 pl ql pk qk pl2 ql2 pk2 qk2 w W' :=
  ⟨h.s.keep hb, h.kx.keep hb h.lx, h.ky.keep hb h.ly, Nat.lt_of_lt_of_le h.lx hb.size, Nat.lt_of_lt_of_le h.ly hb.size⟩
section
variable {P : Program} {ops : Array Oper} {S : World → Prop} {R : Act → Prop} {l : List Nat} {o : Oper} {a a' : Act}
theorem qGK {v : Value} (h : SeqS P ops S R l a') (hw : Region.wanted o (yielded ops a.tmps) = true := by rfl) (hy : ∀ w, S w → o.wp P a w (KV v a o.dst S) QF := by intro W hW; obtain ⟨_, _, _, _, _, _, x6, _, _, _, _, _, _, x13⟩ := hW.s.all; obtain ⟨e0, e1, e2, e3, e4, e5, e6⟩ := hW.kx; obtain ⟨f0, f1, f2, f3, f4, f5, f6⟩ := hW.ky; go_simp; exact KV.mk hW) (hn : a.put o.dst v = a' := by simp only [Act.put, uA, uB, uC]; rfl) : StepS P ops S R o l a := fun _ ho => SeqS.one v ho hw hy (hn ▸ h)
end
set_option maxRecDepth 100000 in
set_option maxHeartbeats 4000000 in
theorem sameG_step (d : Nat) (ih : ∀ d', d' < d → SGSaid d') : SGSaid d := by
  intro t al cl ak ck al2 cl2 ak2 ck2 B w hb hb2 hla hla2 hkt hkt2 hB
  have hkl : (t.kids.length : Int) ≤ 9223372036854775807 := by have := hb.kids; have := hb.ck; omega
  have hll : (t.labels.length : Int) ≤ 9223372036854775807 := by have := hb.labels; have := hb.cl; omega
  have HS : Hid (SS2 t t al cl ak ck al2 cl2 ak2 ck2 w ((w.alloc (.cells #[.int .i64 t.kind, .string t.fm, .string t.tt, .int .i64 t.so, .string t.name, .slice al t.labels.length cl, .slice ak t.kids.length ck] 25)).alloc (.cells #[.int .i64 t.kind, .string t.fm, .string t.tt, .int .i64 t.so, .string t.name, .slice al2 t.labels.length cl2, .slice ak2 t.kids.length ck2] 25))) :=
    ⟨⟨by go_cell, by go_cell, by go_cell, by go_cell, by go_cell, by go_cell, by go_cell⟩, ⟨by go_cell, by go_cell, by go_cell, by go_cell, by go_cell, by go_cell, by go_cell⟩, by simp, ((Below.refl _ _).alloc (Nat.le_refl _) _).alloc (by simp) _⟩
  simp only [valCv]
  have HL := hideK hla
  have HL2 := hideK hla2
  have HK := hideK hkt
  have HK2 := hideK hkt2
  have hll2 : (t.fm.toList == t.fm.toList) = true := by simp
  have hll3 : (t.tt.toList == t.tt.toList) = true := by simp
  have hll4 : (t.name.toList == t.name.toList) = true := by simp
  clear hla hla2 hkt hkt2 hb hb2
  go_enter Tryd.func9, Tryd.ntmps9
  go_wp2_with fail
  generalize (w.alloc (.cells #[.int .i64 t.kind, .string t.fm, .string t.tt, .int .i64 t.so, .string t.name, .slice al t.labels.length cl, .slice ak t.kids.length ck] 25)).alloc (.cells #[.int .i64 t.kind, .string t.fm, .string t.tt, .int .i64 t.so, .string t.name, .slice al2 t.labels.length cl2, .slice ak2 t.kids.length ck2] 25) = V at *
  have hBV : B ≤ V.heap.size := by have := HS.out.bl.size; omega
  refine (equalS_any t.labels al cl al2 cl2 B V (by omega) (NAt.keep (HS.out.bl.mono hB) HL.out) (NAt.keep (HS.out.bl.mono hB) HL2.out) hBV).mono ?_
  rintro e W1 ⟨rfl, hb1⟩
  have H1 := hideK (HS.out.keep hb1)
  clear HS HL HL2 hb1 hBV
  obtain ⟨x0, x1, x2, x3, x4, x5, x6, x7, x8, x9, x10, x11, x12, x13⟩ := H1.out.all
  go_wp2_with fail
  clear x0 x1 x2 x3 x4 x5 x6 x7 x8 x9 x10 x11 x12 x13
  go_loopw [5] (fun i wr => ∃ k : Nat, k ≤ t.kids.length ∧ i = .int .i64 (k : Int) ∧ SS2 t t al cl ak ck al2 cl2 ak2 ck2 w wr) (fun i _ => t.kids.length - (intOf i).toNat)
  case atStart => exact ⟨0, Nat.zero_le _, rfl, H1.out⟩
  case round =>
    obtain ⟨k, hk, rfl, hS⟩ := hrel
    have H2 := hideK hS
    obtain ⟨x0, x1, x2, x3, x4, x5, x6, x7, x8, x9, x10, x11, x12, x13⟩ := hS.all
    clear hS
    by_cases hlt : k < t.kids.length
    · have hltz : (k : Int) < (t.kids.length : Int) := by omega
      obtain ⟨d1, b, o, pl, ql, pk, qk, hd1, rfl, hb1, hx1, hB1, hl1, hk1⟩ := kidCv HK.out k hlt
      obtain ⟨d2, b2, o2, pl2, ql2, pk2, qk2, hd2, rfl, hb2, hx2, hB2, hl2, hk2⟩ := kidCv HK2.out k hlt
      have hbl := H2.out.bl.drew
      have CR := hideK (fun (W : World) (hW : Below w.heap.size w W) => ih (max d1 d2) (by omega) t.kids[k] pl ql pk qk pl2 ql2 pk2 qk2 B W hB1 hB2 (NAt.keep (hW.mono hB) hl1) (NAt.keep (hW.mono hB) hl2) (KCv.up (Nat.le_max_left _ _) (KCv.keep (hW.mono hB) hk1)) (KCv.up (Nat.le_max_right _ _) (KCv.keep (hW.mono hB) hk2)) (by have := hW.size; omega))
      simp only [valCv] at CR
      have hls := H2.out.lt
      have hws := H2.out.bl.size
      have HS : Hid (SGK t al cl (some ⟨b, o, none⟩) ck al2 cl2 (some ⟨b2, o2, none⟩) ck2 t.kids[k] b (o + k * 7) b2 (o2 + k * 7) pl ql pk qk pl2 ql2 pk2 qk2 w wr.drew) := ⟨H2.out.keep (Below.refl _ _).drew, hx1.keep (hbl.mono hB) hb1, hx2.keep (hbl.mono hB) hb2, by show b < wr.heap.size; omega, by show b2 < wr.heap.size; omega⟩
      clear hb1 hx1 hB1 hl1 hk1 hb2 hx2 hB2 hl2 hk2 hbl hls hws ih HK HK2 x0 x1 x2 x3 x4 x5 x7 x8 x9 x10 x11 x12 x13
      generalize t.kids[k] = u at *
      have CQ : ∀ W, SGK t al cl (some ⟨b, o, none⟩) ck al2 cl2 (some ⟨b2, o2, none⟩) ck2 u b (o + k * 7) b2 (o2 + k * 7) pl ql pk qk pl2 ql2 pk2 qk2 w W → Calls Tryd.prog 9 #[.agg #[.int .i64 u.kind, .string u.fm, .string u.tt, .int .i64 u.so, .string u.name, .slice pl u.labels.length ql, .slice pk u.kids.length qk], .agg #[.int .i64 u.kind, .string u.fm, .string u.tt, .int .i64 u.so, .string u.name, .slice pl2 u.labels.length ql2, .slice pk2 u.kids.length qk2]] W (fun e w' => e = .returned (.bool true) ∧ SGK t al cl (some ⟨b, o, none⟩) ck al2 cl2 (some ⟨b2, o2, none⟩) ck2 u b (o + k * 7) b2 (o2 + k * 7) pl ql pk qk pl2 ql2 pk2 qk2 w w') :=
        fun W hW => (CR.out W hW.s.bl).mono fun _ _ ⟨h1, h2⟩ => ⟨h1, hW.keep h2⟩
      have HQ := hideK CQ
      clear CQ CR
      go_upto_region 6 with fail
      clear x6
      refine region_seq (SGK t al cl (some ⟨b, o, none⟩) ck al2 cl2 (some ⟨b2, o2, none⟩) ck2 u b (o + k * 7) b2 (o2 + k * 7) pl ql pk qk pl2 ql2 pk2 qk2 w) [0, 1, 2, 3, 4, 5, 6, 7, 8, 9, 10, 11] (by kernel_rfl) (by kernel_rfl) (by kernel_rfl) HS.out ?_
      repeat (refine qO ?_; first | refine qN ?_ | refine qC HQ.out ?_ | refine qV ?_ | refine qGK ?_)
      refine SeqS.done ?_
      intro W2 hW2
      have HW2 := hideK hW2
      clear hW2
      go_wp2_with fail
      go_roundw
      case rel => exact ⟨k + 1, by omega, by go_num, HW2.out.s⟩
      case measure => simp [intOf]; omega
    · have hltz : ¬ (k : Int) < (t.kids.length : Int) := by omega
      go_wp2_with fail
      go_ret
      exact ⟨rfl, H2.out.bl⟩
theorem sameG_any (d : Nat) : SGSaid d := by
  induction d using Nat.strongRecOn with
  | _ d ih => exact sameG_step d ih
end Go.Proofs.YtfmegfgmkeicnaaDoor
