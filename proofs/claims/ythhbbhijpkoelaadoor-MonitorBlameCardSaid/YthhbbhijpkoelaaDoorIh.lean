/-
  The contracts of slices.Index and slices.ContainsFunc of texts, of below.hasAll and below.failsItself.
-/
import Derived.Test.YthhbbhijpkoelaaDoorIg
import Derived.Test.YthhbbhijpkoelaaDoorHq
namespace Go.Proofs.YthhbbhijpkoelaaDoor
open Go.RowKit Go.Shelf

theorem idxB_take {ls : List ByteArray} {l : ByteArray} {k : Nat} (hk : k < ls.length) (h : hasN (ls.take k) l = false) (e : ls[k] = l) : idxB ls l = k := by
  unfold idxB
  rw [List.findIdx_eq hk]
  refine ⟨by simpa using e, fun j hj => ?_⟩
  cases hq : decide (ls[j] = l) with
  | false => rfl
  | true =>
    have : ls[j] = l := by simpa using hq
    have hm : l ∈ ls.take k := by
      rw [List.mem_take_iff_getElem]
      exact ⟨j, by omega, this⟩
    have := (hasN_iff _ l).2 hm
    rw [this] at h; cases h
theorem hasN_take {ls : List ByteArray} {l : ByteArray} {k : Nat} (hk : k < ls.length) (h : hasN (ls.take k) l = false) (e : ¬ ls[k] = l) : hasN (ls.take (k + 1)) l = false := by
  rw [List.take_succ_eq_append_getElem hk]
  cases hq : hasN (ls.take k ++ [ls[k]]) l with
  | false => rfl
  | true =>
    rcases List.mem_append.1 ((hasN_iff _ l).1 hq) with hm | hm
    · rw [(hasN_iff _ l).2 hm] at h; cases h
    · exact absurd (List.mem_singleton.1 hm).symm e
/-- what slices.Index answers -/
def idxZ (ls : List ByteArray) (l : ByteArray) : Int := if hasN ls l = true then (idxB ls l : Int) else -1
set_option maxRecDepth 100000 in
set_option maxHeartbeats 2000000 in
theorem index_any (ls : List ByteArray) (x : ByteArray) (al : Option Addr) (cl B : Nat) (w : World) (h : LA w B ls al) (hl : ls.length ≤ 1000) :
    Calls Tryd.prog 10 #[.slice al ls.length cl, .string x] w fun e w' => e = .returned (.int .i64 (idxZ ls x)) ∧ w' = w := by
  have hlz : (ls.length : Int) ≤ 1000 := by omega
  go_enter Tryd.func10, Tryd.ntmps10
  go_wp2_with fail
  go_loopw [8] (fun i wr => ∃ k : Nat, k ≤ ls.length ∧ i = .int .i64 (k : Int) ∧ hasN (ls.take k) x = false ∧ wr = w) (fun i _ => ls.length - (intOf i).toNat)
  case atStart => exact ⟨0, Nat.zero_le _, rfl, rfl, rfl⟩
  case round =>
    obtain ⟨k, hk, rfl, hn, rfl⟩ := hrel
    by_cases hlt : k < ls.length
    · have hltz : (k : Int) < (ls.length : Int) := by omega
      obtain ⟨b, o, rfl, hbl, hc⟩ := h.resolve_left (fun q => by have := congrArg List.length q; simp at this; rw [this] at hlt; simp at hlt)
      have d0 := hc k (by simpa using hlt)
      rw [List.getElem_map] at d0
      by_cases he : ls[k] = x
      · have heb : (x.toList == ls[k].toList) = true := by rw [he]; simp
        have HI := hideK (show idxZ ls x = (k : Int) from by
          unfold idxZ
          rw [if_pos ((hasN_iff _ _).2 (by rw [← he]; exact List.getElem_mem hlt)), idxB_take hlt hn he])
        clear he hc hn
        generalize ls[k] = y at *
        go_wp2_with fail
        go_ret
        exact ⟨by rw [HI.out]; rfl, rfl⟩
      · have heb : (x.toList == ls[k].toList) = false := by rw [ba_beq]; simpa using fun q => he q.symm
        have HN := hideK (hasN_take hlt hn he)
        clear he hc hn
        generalize ls[k] = y at *
        go_wp2_with fail
        go_roundw
        case rel => exact ⟨k + 1, by omega, by go_num, HN.out, by first | rfl | trivial⟩
        case measure => simp [intOf]; omega
    · have hltz : ¬ (k : Int) < (ls.length : Int) := by omega
      have hkl : k = ls.length := by omega
      subst hkl
      rw [List.take_length] at hn
      have HI := hideK (show idxZ ls x = -1 from by unfold idxZ; rw [if_neg (by rw [hn]; simp)])
      clear hn
      go_wp2_with fail
      go_ret
      exact ⟨by rw [HI.out]; rfl, rfl⟩
theorem containsL_any (ns : List ByteArray) (x : ByteArray) (aa : Option Addr) (ca B : Nat) (w : World) (h : LA w B ns aa) (hl : ns.length ≤ 1000) :
    Calls Tryd.prog 32 #[.slice aa ns.length ca, .string x] w fun e w' => e = .returned (.bool (hasN ns x)) ∧ w' = w := by
  rcases h with h | ⟨b, o, rfl, _, hc⟩
  · have : ns = [] := by simpa using h
    subst this
    refine (Any.slices_Contains_string_empty Tryd.lays110 aa ca x w).mono fun e w' ⟨h1, h2⟩ => ⟨?_, h2⟩
    rw [h1]; rfl
  · refine (Any.slices_Contains_string Tryd.lays110 b o ns.length ca ns x w (by simp) (by omega) ?_).mono fun e w' ⟨h1, h2⟩ => ⟨?_, h2⟩
    · intro j hj
      rw [hc j (by simpa using hj)]
      simp [List.getD_eq_getElem?_getD, hj]
    · rw [h1]
      congr 2
      rw [List.take_of_length_le (by simp)]
      rw [Bool.eq_iff_iff, Lib.containsS_iff, hasN_iff]
set_option maxRecDepth 100000 in
set_option maxHeartbeats 2000000 in
/-- the closure of below.hasAll -/
theorem hasAll1_any (x : ByteArray) (ns : List ByteArray) (aa : Option Addr) (ca B pb : Nat) (w : World) (h : LA w B ns aa) (hl : ns.length ≤ 1000) (hp : w.cell? ⟨pb, 0, none⟩ = some (.slice aa ns.length ca)) :
    Calls Tryd.prog 56 #[.string x, .pointer (some ⟨pb, 0, none⟩)] w fun e w' => e = .returned (.bool (!hasN ns x)) ∧ w' = w := by
  have c := containsL_any ns x aa ca B w h hl
  generalize hasN ns x = q at *
  clear h
  go_enter Tryd.func56, Tryd.ntmps56
  go_wp2_with fail
  refine c.mono ?_
  rintro e w1 ⟨rfl, rfl⟩
  go_wp2_with fail
  go_ret
  exact ⟨rfl, rfl⟩
set_option maxRecDepth 100000 in
set_option maxHeartbeats 2000000 in
theorem indexHas_any (ls ns : List ByteArray) (al : Option Addr) (cl : Nat) (aa : Option Addr) (ca B pb : Nat) (w : World) (hL : LA w B ls al) (h : LA w B ns aa) (hl : ls.length ≤ 1000) (hl2 : ns.length ≤ 1000) (hp : w.cell? ⟨pb, 0, none⟩ = some (.slice aa ns.length ca)) :
    Calls Tryd.prog 63 #[.slice al ls.length cl, .func (.func 56) #[] #[.pointer (some ⟨pb, 0, none⟩)]] w fun e w' => (∃ z : Int, e = .returned (.int .i64 z) ∧ (0 ≤ z ∨ z = -1) ∧ (z = -1 ↔ (ls.all fun l => hasN ns l) = true)) ∧ w' = w := by
  have hlz : (ls.length : Int) ≤ 1000 := by omega
  go_enter Tryd.func63, Tryd.ntmps63
  go_wp2_with fail
  go_loopw [8] (fun i wr => ∃ k : Nat, k ≤ ls.length ∧ i = .int .i64 (k : Int) ∧ ((ls.take k).all fun l => hasN ns l) = true ∧ wr = w) (fun i _ => ls.length - (intOf i).toNat)
  case atStart => exact ⟨0, Nat.zero_le _, rfl, rfl, rfl⟩
  case round =>
    obtain ⟨k, hk, rfl, hn, rfl⟩ := hrel
    by_cases hlt : k < ls.length
    · have hltz : (k : Int) < (ls.length : Int) := by omega
      obtain ⟨b, o, rfl, hbl, hc⟩ := hL.resolve_left (fun q => by have := congrArg List.length q; simp at this; rw [this] at hlt; simp at hlt)
      have d0 := hc k (by simpa using hlt)
      rw [List.getElem_map] at d0
      have c := hasAll1_any ls[k] ns aa ca B pb _ h hl2 hp
      cases hq : hasN ns ls[k] with
      | true =>
        rw [hq] at c
        have HN := hideK (show ((ls.take (k + 1)).all fun l => hasN ns l) = true from by
          rw [List.take_succ_eq_append_getElem hlt, List.all_append, hn]; simp [hq])
        clear hc hn hq h
        generalize ls[k] = y at *
        go_wp2_with fail
        refine c.mono ?_
        rintro e w1 ⟨rfl, rfl⟩
        go_wp2_with fail
        go_roundw
        case rel => exact ⟨k + 1, by omega, by go_num, HN.out, by first | rfl | trivial⟩
        case measure => simp [intOf]; omega
      | false =>
        rw [hq] at c
        have HN := hideK (show ¬ (ls.all fun l => hasN ns l) = true from fun q => by
          rw [List.all_eq_true] at q
          have := q _ (List.getElem_mem hlt)
          rw [hq] at this; cases this)
        clear hc hn hq h
        generalize ls[k] = y at *
        go_wp2_with fail
        refine c.mono ?_
        rintro e w1 ⟨rfl, rfl⟩
        go_wp2_with fail
        go_ret
        exact ⟨⟨_, rfl, .inl (by omega), ⟨fun q => by omega, fun q => absurd q HN.out⟩⟩, rfl⟩
    · have hltz : ¬ (k : Int) < (ls.length : Int) := by omega
      have hkl : k = ls.length := by omega
      subst hkl
      rw [List.take_length] at hn
      have HN := hideK hn
      clear hn
      go_wp2_with fail
      go_ret
      exact ⟨⟨_, rfl, .inr rfl, ⟨fun _ => by first | exact HN.out | exact List.all_eq_true.1 HN.out, fun _ => rfl⟩⟩, rfl⟩
set_option maxRecDepth 100000 in
set_option maxHeartbeats 2000000 in
theorem containsHas_any (ls ns : List ByteArray) (al : Option Addr) (cl : Nat) (aa : Option Addr) (ca B pb : Nat) (w : World) (hL : LA w B ls al) (h : LA w B ns aa) (hl : ls.length ≤ 1000) (hl2 : ns.length ≤ 1000) (hp : w.cell? ⟨pb, 0, none⟩ = some (.slice aa ns.length ca)) :
    Calls Tryd.prog 55 #[.slice al ls.length cl, .func (.func 56) #[] #[.pointer (some ⟨pb, 0, none⟩)]] w fun e w' => e = .returned (.bool (!(ls.all fun l => hasN ns l))) ∧ w' = w := by
  have c := indexHas_any ls ns al cl aa ca B pb w hL h hl hl2 hp
  generalize (ls.all fun l => hasN ns l) = q at *
  clear h hL
  go_enter Tryd.func55, Tryd.ntmps55
  go_wp2_with fail
  refine c.mono ?_
  rintro e w1 ⟨⟨z, rfl, hz, hq⟩, rfl⟩
  cases q with
  | true =>
    obtain rfl : z = -1 := hq.2 rfl
    clear hz hq
    go_wp2_with fail
    go_ret
    exact ⟨rfl, rfl⟩
  | false =>
    have hz' : decide (z ≥ 0) = true := by
      rcases hz with hz | hz
      · simpa using hz
      · exact absurd (hq.1 hz) (by simp)
    have hz2 : (0 ≤ z) := by simpa using hz'
    clear hz hq
    go_wp2_with fail
    go_ret
    exact ⟨rfl, rfl⟩
set_option maxRecDepth 100000 in
set_option maxHeartbeats 2000000 in
theorem hasAll_any (ls ns : List ByteArray) (al : Option Addr) (cl : Nat) (aa : Option Addr) (ca B : Nat) (w : World) (hL : LA w B ls al) (h : LA w B ns aa) (hB : B ≤ w.heap.size) (hl : ls.length ≤ 1000) (hl2 : ns.length ≤ 1000) :
    Calls Tryd.prog 42 #[.slice aa ns.length ca, .slice al ls.length cl] w fun e w' => e = .returned (.bool (ls.all fun l => hasN ns l)) ∧ Below w.heap.size w w' := by
  have hA : Below w.heap.size w (w.alloc (.cells #[.slice aa ns.length ca] 22)) := (Below.refl _ _).alloc (Nat.le_refl _) _
  have c := containsHas_any ls ns al cl aa ca B w.heap.size (w.alloc (.cells #[.slice aa ns.length ca] 22)) (hL.keep (hA.mono hB)) (h.keep (hA.mono hB)) hl hl2 (by go_cell)
  generalize (ls.all fun l => hasN ns l) = q at *
  have HA := hideK hA
  clear h hL hA
  go_enter Tryd.func42, Tryd.ntmps42
  go_wp2_with fail
  refine c.mono ?_
  rintro e w1 ⟨rfl, rfl⟩
  go_wp2_with fail
  go_ret
  exact ⟨by cases q <;> rfl, HA.out⟩
end Go.Proofs.YthhbbhijpkoelaaDoor
/-
  The contracts of graph.Same and below.graphsOf, for every two types.
-/
namespace Go.Proofs.YthhbbhijpkoelaaDoor
open Go.RowKit Go.Shelf

def GOPost (s t : Ty) (w : World) (e : Ending) (w' : World) : Prop :=
  ((chkTy s ≠ 0 ∧ e = .returned (.tuple #[.slice none 0 0, .slice none 0 0, .int .i64 (chkTy s)])) ∨ (chkTy s = 0 ∧ chkTy t ≠ 0 ∧ e = .returned (.tuple #[.slice none 0 0, .slice none 0 0, .int .i64 (chkTy t)])) ∨
    (∃ g h ag ah cg ch, OFG s g ∧ OFG t h ∧ e = .returned (.tuple #[.slice ag g.length cg, .slice ah h.length ch, .int .i64 0]) ∧ GAt w' w'.heap.size g ag ∧ GAt w' w'.heap.size h ah)) ∧ Below w.heap.size w w'
set_option maxRecDepth 100000 in
set_option maxHeartbeats 4000000 in
theorem graphsOf_any (ds dt : Nat) (s t : Ty) (sal : Option Addr) (scl : Nat) (sak : Option Addr) (sck : Nat) (al : Option Addr) (cl : Nat) (ak : Option Addr) (ck : Nat) (w : World) (hs1 : TyBd s scl sck) (hs2 : LA w w.heap.size s.labels sal) (hs3 : KT w w.heap.size ds s.kids sak) (ht1 : TyBd t cl ck) (ht2 : LA w w.heap.size t.labels al) (ht3 : KT w w.heap.size dt t.kids ak) :
    Calls Tryd.prog 14 #[tyVal s sal scl sak sck, tyVal t al cl ak ck] w (GOPost s t w) := by
  unfold GOPost
  have hA : Below w.heap.size w ((w.alloc (.cells #[.int .i64 s.kind, .int .i64 s.so, .string s.name, .slice sal s.labels.length scl, .slice sak s.kids.length sck] 25)).alloc (.cells #[.int .i64 t.kind, .int .i64 t.so, .string t.name, .slice al t.labels.length cl, .slice ak t.kids.length ck] 25)) := ((Below.refl _ _).alloc (Nat.le_refl _) _).alloc (by simp) _
  have hsz : ((w.alloc (.cells #[.int .i64 s.kind, .int .i64 s.so, .string s.name, .slice sal s.labels.length scl, .slice sak s.kids.length sck] 25)).alloc (.cells #[.int .i64 t.kind, .int .i64 t.so, .string t.name, .slice al t.labels.length cl, .slice ak t.kids.length ck] 25)).heap.size = w.heap.size + 1 + 1 := by simp
  have bs : TyAt ((w.alloc (.cells #[.int .i64 s.kind, .int .i64 s.so, .string s.name, .slice sal s.labels.length scl, .slice sak s.kids.length sck] 25)).alloc (.cells #[.int .i64 t.kind, .int .i64 t.so, .string t.name, .slice al t.labels.length cl, .slice ak t.kids.length ck] 25)) w.heap.size 0 s sal scl sak sck := ⟨by go_cell, by go_cell, by go_cell, by go_cell, by go_cell⟩
  have bt : TyAt ((w.alloc (.cells #[.int .i64 s.kind, .int .i64 s.so, .string s.name, .slice sal s.labels.length scl, .slice sak s.kids.length sck] 25)).alloc (.cells #[.int .i64 t.kind, .int .i64 t.so, .string t.name, .slice al t.labels.length cl, .slice ak t.kids.length ck] 25)) (w.heap.size + 1) 0 t al cl ak ck := ⟨by go_cell, by go_cell, by go_cell, by go_cell, by go_cell⟩
  have CS := hideK (fun (W : World) (hb : Below w.heap.size w W) => of_any ds s sal scl sak sck W hs1 ((hs2.keep hb).mono hb.size) ((hs3.keep hb).mono hb.size))
  have CT := hideK (fun (W : World) (hb : Below w.heap.size w W) => of_any dt t al cl ak ck W ht1 ((ht2.keep hb).mono hb.size) ((ht3.keep hb).mono hb.size))
  have HA := hideK hA
  have HBS := hideK bs
  have HBT := hideK bt
  have HSZ := hideK hsz
  simp only [tyVal] at CS CT ⊢
  unfold OFPost at CS CT
  clear hs1 hs2 hs3 ht1 ht2 ht3 hA hsz
  obtain ⟨y0, y1, y2, y3, y4⟩ := bt
  obtain ⟨x0, x1, x2, x3, x4⟩ := bs
  simp only [Nat.zero_add] at x1 x2 x3 x4 y1 y2 y3 y4
  go_enter Tryd.func14, Tryd.ntmps14
  go_wp2_with fail
  refine (CS.out _ HA.out).mono ?_
  rintro e w1 ⟨hor, hb1⟩
  have HB1 := hideK (HA.out.trans (hb1.mono (by rw [HSZ.out]; omega)))
  have bt1 := HBT.out.keep hb1 (by rw [HSZ.out]; omega)
  obtain ⟨z0, z1, z2, z3, z4⟩ := bt1
  simp only [Nat.zero_add] at z1 z2 z3 z4
  clear x0 x1 x2 x3 x4 y0 y1 y2 y3 y4 hb1 CS
  rcases hor with ⟨hz, rfl⟩ | ⟨g, ag, cg, hof, rfl, hga⟩
  · have hzb : (chkTy s != 0) = true := by simpa using hz
    have HZ := hideK hz
    clear hz
    go_wp2_with fail
    go_ret3
    exact ⟨.inl ⟨HZ.out, rfl⟩, HB1.out⟩
  · have HOF := hideK hof
    have HGA := hideK hga
    clear hof hga
    go_wp2_with fail
    refine (CT.out _ HB1.out).mono ?_
    rintro e w2 ⟨hor, hb2⟩
    have HB2 := hideK (HB1.out.trans (hb2.mono HB1.out.size))
    have HGA2 := hideK (HGA.out.keep hb2)
    have HLE := hideK hb2.size
    clear z0 z1 z2 z3 z4 CT hb2
    rcases hor with ⟨hz, rfl⟩ | ⟨h, ah, ch, hof, rfl, hha⟩
    · have hzb : (chkTy t != 0) = true := by simpa using hz
      have HZ := hideK hz
      clear hz
      go_wp2_with fail
      go_ret3
      exact ⟨.inr (.inl ⟨HOF.out.chk, HZ.out, rfl⟩), HB2.out⟩
    · have HOF2 := hideK hof
      have HHA := hideK hha
      clear hof hha
      go_wp2_with fail
      go_ret3
      exact ⟨.inr (.inr ⟨g, h, ag, ah, cg, ch, HOF.out, HOF2.out, rfl, HGA2.out.mono HLE.out, HHA.out⟩), HB2.out⟩
end Go.Proofs.YthhbbhijpkoelaaDoor
