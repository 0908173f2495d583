/-
  The contract of duetref.inPlace, for every type that is right in all its parts.
-/
import Derived.Test.YthhbbhijpkoelaaDoorZf
namespace Go.Proofs.YthhbbhijpkoelaaDoor
open Go.RowKit Go.Shelf

/-- what inPlace answers -/
def INPost (x : ByteArray) (s t : Ty) (P : Nat → Prop) (w : World) (e : Ending) (w' : World) : Prop :=
  (∃ al cl ak ck d, e = .returned (tyVal (putT x s t) al cl ak ck) ∧ TyBd (putT x s t) cl ck ∧ LP w' (fun b => P b ∨ (w.heap.size ≤ b ∧ b < w'.heap.size)) (putT x s t).labels al ∧ KP w' (fun b => P b ∨ (w.heap.size ≤ b ∧ b < w'.heap.size)) d (putT x s t).kids ak) ∧ Below w.heap.size w w'
def INSaid (N : Nat) : Prop := ∀ (x : ByteArray) (s t : Ty) (al : Option Addr) (cl : Nat) (ak : Option Addr) (ck d : Nat) (sal : Option Addr) (scl : Nat) (sak : Option Addr) (sck ds : Nat) (P : Nat → Prop) (w : World), sizeT t ≤ N → TyBd t cl ck → LP w P t.labels al → KP w P d t.kids ak → TyBd s scl sck → LP w P s.labels sal → KP w P ds s.kids sak → (∀ b, P b → b < w.heap.size) → wfT t →
  Calls Tryd.prog 16 #[tyVal t al cl ak ck, .string x, tyVal s sal scl sak sck] w (INPost x s t P w)
theorem kp_at {w : World} {P : Nat → Prop} {d : Nat} {ks : List Ty} {ak : Option Addr} (h : KP w P d ks ak) {j : Nat} (hj : j < ks.length) : ∃ b o, ak = some ⟨b, o, none⟩ ∧ P b ∧ ∃ al cl ak' ck', TyAt w b (o + j * 5) ks[j] al cl ak' ck' ∧ TyBd ks[j] cl ck' ∧ LP w P ks[j].labels al ∧ ∃ d', KP w P d' ks[j].kids ak' := by
  cases d with
  | zero => simp only [KP] at h; subst h; simp at hj
  | succ d =>
    rcases h with h | ⟨b, o, e, hb, hc⟩
    · subst h; simp at hj
    · obtain ⟨al, cl, ak', ck', h1, h2, h3, h4⟩ := hc j hj
      exact ⟨b, o, e, hb, al, cl, ak', ck', h1, h2, h3, d, h4⟩
/-- what is read ahead of what is made -/
structure INQ (w : World) (bo : Nat) (u : Value) (b o : Nat) (kv : Value) (v : Ty) (al2 : Option Addr) (cl2 : Nat) (ak2 : Option Addr) (ck2 : Nat) (s : Ty) (sal : Option Addr) (scl : Nat) (sak : Option Addr) (sck : Nat) (W : World) : Prop where
  c : W.cell? ⟨bo, 4, none⟩ = some u
  k : W.cell? ⟨w.heap.size, 4, none⟩ = some kv
  v : TyAt W b o v al2 cl2 ak2 ck2
  y : TyAt W (w.heap.size + 1) 0 s sal scl sak sck
  lo : w.heap.size + 1 < bo ∧ b < bo
theorem INQ.keep {w : World} {bo : Nat} {u : Value} {b o : Nat} {kv : Value} {v : Ty} {al2 : Option Addr} {cl2 : Nat} {ak2 : Option Addr} {ck2 : Nat} {s : Ty} {sal : Option Addr} {scl : Nat} {sak : Option Addr} {sck : Nat} {W W' : World} (h : INQ w bo u b o kv v al2 cl2 ak2 ck2 s sal scl sak sck W) (hc : ∀ b' o', b' ≤ bo → W'.cell? ⟨b', o', none⟩ = W.cell? ⟨b', o', none⟩) : INQ w bo u b o kv v al2 cl2 ak2 ck2 s sal scl sak sck W' := by
  have h1 := h.lo
  exact ⟨(hc _ _ (by omega)).trans h.c, (hc _ _ (by omega)).trans h.k, ⟨(hc _ _ (by omega)).trans h.v.c0, (hc _ _ (by omega)).trans h.v.c1, (hc _ _ (by omega)).trans h.v.c2, (hc _ _ (by omega)).trans h.v.c3, (hc _ _ (by omega)).trans h.v.c4⟩, ⟨(hc _ _ (by omega)).trans h.y.c0, (hc _ _ (by omega)).trans h.y.c1, (hc _ _ (by omega)).trans h.y.c2, (hc _ _ (by omega)).trans h.y.c3, (hc _ _ (by omega)).trans h.y.c4⟩, h1⟩
theorem INQ.drew {w : World} {bo : Nat} {u : Value} {b o : Nat} {kv : Value} {v : Ty} {al2 : Option Addr} {cl2 : Nat} {ak2 : Option Addr} {ck2 : Nat} {s : Ty} {sal : Option Addr} {scl : Nat} {sak : Option Addr} {sck : Nat} {W : World} (h : INQ w bo u b o kv v al2 cl2 ak2 ck2 s sal scl sak sck W) : INQ w bo u b o kv v al2 cl2 ak2 ck2 s sal scl sak sck W.drew := h.keep fun _ _ _ => rfl
theorem PX.drew {w : World} {t : Ty} {al : Option Addr} {cl : Nat} {ak : Option Addr} {ck : Nat} {s : Ty} {sal : Option Addr} {scl : Nat} {sak : Option Addr} {sck : Nat} {bo : Nat} {u : Value} {W : World} (h : PX w t al cl ak ck s sal scl sak sck bo u W) : PX w t al cl ak ck s sal scl sak sck bo u W.drew := h.keep ((Below.refl _ _).drew)
set_option maxRecDepth 100000 in
set_option maxHeartbeats 16000000 in
theorem inPlace_step (N : Nat) (ih : INSaid N) : INSaid (N + 1) := by
  intro x s t al cl ak ck d sal scl sak sck ds P w hs hbd hla hkt sbd sla skt hP hw
  have HPB := hideK hP
  clear hP
  obtain ⟨i1, hj, hy0, hy1, hy2⟩ := info_parts infoTy
  obtain ⟨hpt, hwk⟩ := (wfT_eq t).1 hw
  have h6 := part_six _ hpt
  unfold INPost
  simp only [tyVal]
  have hA : Below w.heap.size w (((w.alloc (.cells #[.int .i64 t.kind, .int .i64 t.so, .string t.name, .slice al t.labels.length cl, .slice ak t.kids.length ck] 25)).alloc (.cells #[.int .i64 s.kind, .int .i64 s.so, .string s.name, .slice sal s.labels.length scl, .slice sak s.kids.length sck] 25)).alloc (.cells #[.int .i64 0, .int .i64 0, .string ⟨#[]⟩, .slice none 0 0, .slice none 0 0] 25)) := (((Below.refl _ _).alloc (Nat.le_refl _) _).alloc (by simp) _).alloc (by simp; omega) _
  have HIH := hideK ih
  have HSZ := hideK hs
  have HKT := hideK hkt
  have HLA := hideK hla
  have HBD := hideK hbd
  have HSB := hideK sbd
  have HSL := hideK sla
  have HSK := hideK skt
  have HWK := hideK hwk
  have HA := hideK hA
  have nE := nm_beq t.name x
  by_cases h9x : t.kind = 9 ∧ t.name = x
  · rw [putT_var x s t h9x]
    have k9 : (t.kind == 9) = true := by simpa using h9x.1
    rw [decide_eq_true h9x.2] at nE
    have HR := hideK (show Below w.heap.size w (((w.alloc (.cells #[.int .i64 t.kind, .int .i64 t.so, .string t.name, .slice al t.labels.length cl, .slice ak t.kids.length ck] 25)).alloc (.cells #[.int .i64 s.kind, .int .i64 s.so, .string s.name, .slice sal s.labels.length scl, .slice sak s.kids.length sck] 25)).alloc (.cells #[.int .i64 s.kind, .int .i64 s.so, .string s.name, .slice sal s.labels.length scl, .slice sak s.kids.length sck] 25)) from (((Below.refl _ _).alloc (Nat.le_refl _) _).alloc (by simp) _).alloc (by simp; omega) _)
    have r0 : (((w.alloc (.cells #[.int .i64 t.kind, .int .i64 t.so, .string t.name, .slice al t.labels.length cl, .slice ak t.kids.length ck] 25)).alloc (.cells #[.int .i64 s.kind, .int .i64 s.so, .string s.name, .slice sal s.labels.length scl, .slice sak s.kids.length sck] 25)).alloc (.cells #[.int .i64 s.kind, .int .i64 s.so, .string s.name, .slice sal s.labels.length scl, .slice sak s.kids.length sck] 25)).cell? ⟨w.heap.size + 1 + 1, 0, none⟩ = some (.int .i64 s.kind) := by go_cell
    have r1 : (((w.alloc (.cells #[.int .i64 t.kind, .int .i64 t.so, .string t.name, .slice al t.labels.length cl, .slice ak t.kids.length ck] 25)).alloc (.cells #[.int .i64 s.kind, .int .i64 s.so, .string s.name, .slice sal s.labels.length scl, .slice sak s.kids.length sck] 25)).alloc (.cells #[.int .i64 s.kind, .int .i64 s.so, .string s.name, .slice sal s.labels.length scl, .slice sak s.kids.length sck] 25)).cell? ⟨w.heap.size + 1 + 1, 1, none⟩ = some (.int .i64 s.so) := by go_cell
    have r2 : (((w.alloc (.cells #[.int .i64 t.kind, .int .i64 t.so, .string t.name, .slice al t.labels.length cl, .slice ak t.kids.length ck] 25)).alloc (.cells #[.int .i64 s.kind, .int .i64 s.so, .string s.name, .slice sal s.labels.length scl, .slice sak s.kids.length sck] 25)).alloc (.cells #[.int .i64 s.kind, .int .i64 s.so, .string s.name, .slice sal s.labels.length scl, .slice sak s.kids.length sck] 25)).cell? ⟨w.heap.size + 1 + 1, 2, none⟩ = some (.string s.name) := by go_cell
    have r3 : (((w.alloc (.cells #[.int .i64 t.kind, .int .i64 t.so, .string t.name, .slice al t.labels.length cl, .slice ak t.kids.length ck] 25)).alloc (.cells #[.int .i64 s.kind, .int .i64 s.so, .string s.name, .slice sal s.labels.length scl, .slice sak s.kids.length sck] 25)).alloc (.cells #[.int .i64 s.kind, .int .i64 s.so, .string s.name, .slice sal s.labels.length scl, .slice sak s.kids.length sck] 25)).cell? ⟨w.heap.size + 1 + 1, 3, none⟩ = some (.slice sal s.labels.length scl) := by go_cell
    have r4 : (((w.alloc (.cells #[.int .i64 t.kind, .int .i64 t.so, .string t.name, .slice al t.labels.length cl, .slice ak t.kids.length ck] 25)).alloc (.cells #[.int .i64 s.kind, .int .i64 s.so, .string s.name, .slice sal s.labels.length scl, .slice sak s.kids.length sck] 25)).alloc (.cells #[.int .i64 s.kind, .int .i64 s.so, .string s.name, .slice sal s.labels.length scl, .slice sak s.kids.length sck] 25)).cell? ⟨w.heap.size + 1 + 1, 4, none⟩ = some (.slice sak s.kids.length sck) := by go_cell
    clear h9x hs hbd hla hkt sbd sla skt hw hpt hwk hA ih
    go_enter Tryd.func16, Tryd.ntmps16
    go_wp2_with fail
    refine bodyPost_ret (v := .agg #[.int .i64 s.kind, .int .i64 s.so, .string s.name, .slice sal s.labels.length scl, .slice sak s.kids.length sck]) (by simp [results, Tryd.results16, go_sem, r0, r1, r2, r3, r4]) rfl ?_
    exact ⟨⟨sal, scl, sak, sck, ds, rfl, HSB.out, HSL.out.keep (fun b o hb => HR.out.cell (p := ⟨b, o, none⟩) (HPB.out b hb)) (fun b hb => .inl hb), HSK.out.keep (fun b o hb => HR.out.cell (p := ⟨b, o, none⟩) (HPB.out b hb)) (fun b hb => .inl hb)⟩, HR.out⟩
  by_cases h8x : t.kind = 8 ∧ t.name = x
  · rw [putT_rec x s t h8x]
    have k9 : (t.kind == 9) = false := by rw [h8x.1]; rfl
    have k8 : (t.kind == 8) = true := by simpa using h8x.1
    rw [decide_eq_true h8x.2] at nE
    have HR := hideK (show Below w.heap.size w (((w.alloc (.cells #[.int .i64 t.kind, .int .i64 t.so, .string t.name, .slice al t.labels.length cl, .slice ak t.kids.length ck] 25)).alloc (.cells #[.int .i64 s.kind, .int .i64 s.so, .string s.name, .slice sal s.labels.length scl, .slice sak s.kids.length sck] 25)).alloc (.cells #[.int .i64 t.kind, .int .i64 t.so, .string t.name, .slice al t.labels.length cl, .slice ak t.kids.length ck] 25)) from (((Below.refl _ _).alloc (Nat.le_refl _) _).alloc (by simp) _).alloc (by simp; omega) _)
    have r0 : (((w.alloc (.cells #[.int .i64 t.kind, .int .i64 t.so, .string t.name, .slice al t.labels.length cl, .slice ak t.kids.length ck] 25)).alloc (.cells #[.int .i64 s.kind, .int .i64 s.so, .string s.name, .slice sal s.labels.length scl, .slice sak s.kids.length sck] 25)).alloc (.cells #[.int .i64 t.kind, .int .i64 t.so, .string t.name, .slice al t.labels.length cl, .slice ak t.kids.length ck] 25)).cell? ⟨w.heap.size + 1 + 1, 0, none⟩ = some (.int .i64 t.kind) := by go_cell
    have r1 : (((w.alloc (.cells #[.int .i64 t.kind, .int .i64 t.so, .string t.name, .slice al t.labels.length cl, .slice ak t.kids.length ck] 25)).alloc (.cells #[.int .i64 s.kind, .int .i64 s.so, .string s.name, .slice sal s.labels.length scl, .slice sak s.kids.length sck] 25)).alloc (.cells #[.int .i64 t.kind, .int .i64 t.so, .string t.name, .slice al t.labels.length cl, .slice ak t.kids.length ck] 25)).cell? ⟨w.heap.size + 1 + 1, 1, none⟩ = some (.int .i64 t.so) := by go_cell
    have r2 : (((w.alloc (.cells #[.int .i64 t.kind, .int .i64 t.so, .string t.name, .slice al t.labels.length cl, .slice ak t.kids.length ck] 25)).alloc (.cells #[.int .i64 s.kind, .int .i64 s.so, .string s.name, .slice sal s.labels.length scl, .slice sak s.kids.length sck] 25)).alloc (.cells #[.int .i64 t.kind, .int .i64 t.so, .string t.name, .slice al t.labels.length cl, .slice ak t.kids.length ck] 25)).cell? ⟨w.heap.size + 1 + 1, 2, none⟩ = some (.string t.name) := by go_cell
    have r3 : (((w.alloc (.cells #[.int .i64 t.kind, .int .i64 t.so, .string t.name, .slice al t.labels.length cl, .slice ak t.kids.length ck] 25)).alloc (.cells #[.int .i64 s.kind, .int .i64 s.so, .string s.name, .slice sal s.labels.length scl, .slice sak s.kids.length sck] 25)).alloc (.cells #[.int .i64 t.kind, .int .i64 t.so, .string t.name, .slice al t.labels.length cl, .slice ak t.kids.length ck] 25)).cell? ⟨w.heap.size + 1 + 1, 3, none⟩ = some (.slice al t.labels.length cl) := by go_cell
    have r4 : (((w.alloc (.cells #[.int .i64 t.kind, .int .i64 t.so, .string t.name, .slice al t.labels.length cl, .slice ak t.kids.length ck] 25)).alloc (.cells #[.int .i64 s.kind, .int .i64 s.so, .string s.name, .slice sal s.labels.length scl, .slice sak s.kids.length sck] 25)).alloc (.cells #[.int .i64 t.kind, .int .i64 t.so, .string t.name, .slice al t.labels.length cl, .slice ak t.kids.length ck] 25)).cell? ⟨w.heap.size + 1 + 1, 4, none⟩ = some (.slice ak t.kids.length ck) := by go_cell
    clear h9x h8x hs hbd hla hkt sbd sla skt hw hpt hwk hA ih
    go_enter Tryd.func16, Tryd.ntmps16
    go_wp2_with fail
    refine bodyPost_ret (v := .agg #[.int .i64 t.kind, .int .i64 t.so, .string t.name, .slice al t.labels.length cl, .slice ak t.kids.length ck]) (by simp [results, Tryd.results16, go_sem, r0, r1, r2, r3, r4]) rfl ?_
    exact ⟨⟨al, cl, ak, ck, d, rfl, HBD.out, HLA.out.keep (fun b o hb => HR.out.cell (p := ⟨b, o, none⟩) (HPB.out b hb)) (fun b hb => .inl hb), HKT.out.keep (fun b o hb => HR.out.cell (p := ⟨b, o, none⟩) (HPB.out b hb)) (fun b hb => .inl hb)⟩, HR.out⟩
  rw [putT_else x s t h9x h8x]
  have hcase : ((t.kind == 9) = true ∧ (t.name.toList == x.toList) = false ∧ (t.kind == 8) = false) ∨ ((t.kind == 9) = false ∧ (t.kind == 8) = false) ∨ ((t.kind == 9) = false ∧ (t.kind == 8) = true ∧ (t.name.toList == x.toList) = false) := by
    rw [nE]
    by_cases h9 : t.kind = 9
    · exact .inl ⟨by simpa using h9, decide_eq_false (fun e => h9x ⟨h9, e⟩), by rw [h9]; rfl⟩
    by_cases h8 : t.kind = 8
    · exact .inr (.inr ⟨by simpa using h9, by simpa using h8, decide_eq_false (fun e => h8x ⟨h8, e⟩)⟩)
    · exact .inr (.inl ⟨by simpa using h9, by simpa using h8⟩)
  have hPX0 : PX w t al cl ak ck s sal scl sak sck (w.heap.size + 1 + 1 + 1) (.slice none 0 0) ((((w.alloc (.cells #[.int .i64 t.kind, .int .i64 t.so, .string t.name, .slice al t.labels.length cl, .slice ak t.kids.length ck] 25)).alloc (.cells #[.int .i64 s.kind, .int .i64 s.so, .string s.name, .slice sal s.labels.length scl, .slice sak s.kids.length sck] 25)).alloc (.cells #[.int .i64 0, .int .i64 0, .string ⟨#[]⟩, .slice none 0 0, .slice none 0 0] 25)).alloc (.cells #[.int .i64 t.kind, .int .i64 t.so, .string t.name, .slice al t.labels.length cl, .slice none 0 0] 25)) := by
    refine ⟨⟨by go_cell, by go_cell, by go_cell, by go_cell, by go_cell⟩, ⟨by go_cell, by go_cell, by go_cell, by go_cell, by go_cell⟩, fun j hj => ?_, by go_cell, by go_cell, by go_cell, by go_cell, by go_cell, by go_simp, by omega, by simp, HA.out.alloc HA.out.size _⟩
    match j, hj with
    | 0, _ => exact ⟨⟨.int .i64 0, by go_cell⟩, by go_simp⟩
    | 1, _ => exact ⟨⟨.int .i64 0, by go_cell⟩, by go_simp⟩
    | 2, _ => exact ⟨⟨.string ⟨#[]⟩, by go_cell⟩, by go_simp⟩
    | 3, _ => exact ⟨⟨.slice none 0 0, by go_cell⟩, by go_simp⟩
    | 4, _ => exact ⟨⟨.slice none 0 0, by go_cell⟩, by go_simp⟩
  have HPX := hideK hPX0
  clear h9x h8x hs hbd hla hkt sbd sla skt hw hpt hwk hA nE ih hPX0
  rcases hcase with ⟨k9, nE, k8⟩ | ⟨k9, k8⟩ | ⟨k9, k8, nE⟩
  all_goals
    go_enter Tryd.func16, Tryd.ntmps16
    go_wp2_with fail
    generalize (((w.alloc (.cells #[.int .i64 t.kind, .int .i64 t.so, .string t.name, .slice al t.labels.length cl, .slice ak t.kids.length ck] 25)).alloc (.cells #[.int .i64 s.kind, .int .i64 s.so, .string s.name, .slice sal s.labels.length scl, .slice sak s.kids.length sck] 25)).alloc (.cells #[.int .i64 0, .int .i64 0, .string ⟨#[]⟩, .slice none 0 0, .slice none 0 0] 25)).alloc (.cells #[.int .i64 t.kind, .int .i64 t.so, .string t.name, .slice al t.labels.length cl, .slice none 0 0] 25) = V at *
    generalize w.heap.size + 1 + 1 + 1 = bo at *
    clear k9 k8
    go_loopw [8] (fun i wq => ∃ (k : Nat) (ts : List TTk) (u : Value), k ≤ t.kids.length ∧ i = .int .i64 (k : Int) ∧ PX w t al cl ak ck s sal scl sak sck bo u wq ∧ wq.ownsRow V.heap.size 25 5 u k (tCs ts) ∧ ts.map (fun q => q.1) = (t.kids.take k).map (putT x s) ∧ TOK wq (fun b => P b ∨ (V.heap.size ≤ b ∧ b < wq.heap.size ∧ u.ownBlock ≠ some b)) ts ∧ V.heap.size ≤ wq.heap.size) (fun i _ => t.kids.length - (intOf i).toNat)
    case atStart => exact ⟨0, [], .slice none 0 0, Nat.zero_le _, rfl, HPX.out, World.ownsRow_nil _ _ _ _, rfl, fun q hq => (by cases hq), Nat.le_refl _⟩
    case round =>
      obtain ⟨k, ts, u, hk, rfl, hPX, hO, hmap, hT, hVs⟩ := hrel
      have hVb : bo < V.heap.size := HPX.out.lt
      have hwV : w.heap.size ≤ V.heap.size := HPX.out.bl.size
      clear HPX
      have hlo := hPX.lo
      have hlt := hPX.lt
      have HUL := hideK (fun b (e : u.ownBlock = some b) => hO.lt b e)
      obtain ⟨x0, x1, x2, x3, x4⟩ := hPX.x
      simp only [Nat.zero_add] at x1 x2 x3 x4
      by_cases hlt2 : k < t.kids.length
      · have hltz : (k : Int) < (t.kids.length : Int) := by omega
        obtain ⟨b, o, hak, hbB, al2, cl2, ak2, ck2, hat, hbd2, hla2, d2, hkt2⟩ := kp_at HKT.out hlt2
        have hbw := HPB.out b hbB
        subst hak
        have hm := List.getElem_mem hlt2
        have HS0 := hideK (show INQ w bo u b (o + k * 5) (.slice (some ⟨b, o, none⟩) t.kids.length ck) t.kids[k] al2 cl2 ak2 ck2 s sal scl sak sck wr from ⟨hPX.o4, x4, hat.keep hPX.bl hbw, hPX.y, by omega⟩)
        have CP := hideK (fun (W : World) (hbw : Below w.heap.size w W) => HIH.out x s t.kids[k] al2 cl2 ak2 ck2 d2 sal scl sak sck ds P W (by have := sizeT_kid hm; have := HSZ.out; omega) hbd2 (hla2.keep (fun b o hb => hbw.cell (p := ⟨b, o, none⟩) (HPB.out b hb)) (fun _ h => h)) (hkt2.keep (fun b o hb => hbw.cell (p := ⟨b, o, none⟩) (HPB.out b hb)) (fun _ h => h)) HSB.out (HSL.out.keep (fun b o hb => hbw.cell (p := ⟨b, o, none⟩) (HPB.out b hb)) (fun _ h => h)) (HSK.out.keep (fun b o hb => hbw.cell (p := ⟨b, o, none⟩) (HPB.out b hb)) (fun _ h => h)) (fun b hb => Nat.lt_of_lt_of_le (HPB.out b hb) hbw.size) (HWK.out _ hm))
        unfold INPost at CP
        have HMS := hideK (show (t.kids.take (k + 1)).map (putT x s) = (t.kids.take k).map (putT x s) ++ [putT x s t.kids[k]] from by rw [List.take_succ_eq_append_getElem hlt2, List.map_append]; rfl)
        have HPXR := hideK hPX
        have HDR := hideK (show Below w.heap.size w wr.drew from hPX.bl.drew)
        have HODR := hideK (show wr.drew.ownsRow V.heap.size 25 5 u k (tCs ts) from hO)
        have HTR := hideK hT
        have HMP := hideK hmap
        clear hat hbd2 hla2 hkt2 hmap hT hO hPX hm
        generalize t.kids[k] = v at *
        simp only [tyVal] at CP
        go_wp2_with fail
        refine wp_region_upto (fun W : World => INQ w bo u b (o + k * 5) (.slice (some ⟨b, o, none⟩) t.kids.length ck) v al2 cl2 ak2 ck2 s sal scl sak sck W) 13 (by kernel_rfl) (HS0.out.drew) (fun hS => ?_)
        refine upto_take (i := 0) (v := (.pointer (some ⟨bo, 4, none⟩))) (by rw [List.getElem?_toArray]; rfl) (by kernel_rfl) (by kernel_rfl) (by kernel_rfl) (by kernel_rfl) (by exact fun _ _ _ h => h) (Or.inl ⟨by rfl, fun W hW => by go_simp⟩) hS ?_
        simp only [Act.put, List.setIfInBounds_toArray, List.set_cons_zero, List.set_cons_succ]
        refine upto_take (i := 1) (v := u) (by rw [List.getElem?_toArray]; rfl) (by kernel_rfl) (by kernel_rfl) (by kernel_rfl) (by kernel_rfl) (by exact fun _ _ _ h => h) (Or.inl ⟨by rfl, fun W hW => by have x0 := hW.c; go_simp⟩) hS ?_
        simp only [Act.put, List.setIfInBounds_toArray, List.set_cons_zero, List.set_cons_succ]
        refine upto_take (i := 2) (v := (.pointer (some ⟨w.heap.size, 4, none⟩))) (by rw [List.getElem?_toArray]; rfl) (by kernel_rfl) (by kernel_rfl) (by kernel_rfl) (by kernel_rfl) (by exact fun _ _ _ h => h) (Or.inl ⟨by rfl, fun W hW => by go_simp⟩) hS ?_
        simp only [Act.put, List.setIfInBounds_toArray, List.set_cons_zero, List.set_cons_succ]
        refine upto_take (i := 3) (v := (.slice (some ⟨b, o, none⟩) t.kids.length ck)) (by rw [List.getElem?_toArray]; rfl) (by kernel_rfl) (by kernel_rfl) (by kernel_rfl) (by kernel_rfl) (by exact fun _ _ _ h => h) (Or.inl ⟨by rfl, fun W hW => by have x0 := hW.k; go_simp⟩) hS ?_
        simp only [Act.put, List.setIfInBounds_toArray, List.set_cons_zero, List.set_cons_succ]
        refine upto_take (i := 4) (v := (.int .i64 (k : Int))) (by rw [List.getElem?_toArray]; rfl) (by kernel_rfl) (by kernel_rfl) (by kernel_rfl) (by kernel_rfl) (by exact fun _ _ _ h => h) (Or.inl ⟨by rfl, fun W hW => by go_simp⟩) hS ?_
        simp only [Act.put, List.setIfInBounds_toArray, List.set_cons_zero, List.set_cons_succ]
        refine upto_take (i := 5) (v := (.pointer (some ⟨b, o + k * 5, none⟩))) (by rw [List.getElem?_toArray]; rfl) (by kernel_rfl) (by kernel_rfl) (by kernel_rfl) (by kernel_rfl) (by exact fun _ _ _ h => h) (Or.inl ⟨by rfl, fun W hW => by go_simp⟩) hS ?_
        simp only [Act.put, List.setIfInBounds_toArray, List.set_cons_zero, List.set_cons_succ]
        refine upto_take (i := 6) (v := (.agg #[.int .i64 v.kind, .int .i64 v.so, .string v.name, .slice al2 v.labels.length cl2, .slice ak2 v.kids.length ck2])) (by rw [List.getElem?_toArray]; rfl) (by kernel_rfl) (by kernel_rfl) (by kernel_rfl) (by kernel_rfl) (by exact fun _ _ _ h => h) (Or.inl ⟨by rfl, fun W hW => by obtain ⟨x0, x1, x2, x3, x4⟩ := hW.v; go_simp⟩) hS ?_
        simp only [Act.put, List.setIfInBounds_toArray, List.set_cons_zero, List.set_cons_succ]
        refine upto_take (i := 7) (v := (.string x)) (by rw [List.getElem?_toArray]; rfl) (by kernel_rfl) (by kernel_rfl) (by kernel_rfl) (by kernel_rfl) (by exact fun _ _ _ h => h) (Or.inl ⟨by rfl, fun W hW => by go_simp⟩) hS ?_
        simp only [Act.put, List.setIfInBounds_toArray, List.set_cons_zero, List.set_cons_succ]
        refine upto_take (i := 8) (v := (.agg #[.int .i64 s.kind, .int .i64 s.so, .string s.name, .slice sal s.labels.length scl, .slice sak s.kids.length sck])) (by rw [List.getElem?_toArray]; rfl) (by kernel_rfl) (by kernel_rfl) (by kernel_rfl) (by kernel_rfl) (by exact fun _ _ _ h => h) (Or.inl ⟨by rfl, fun W hW => by obtain ⟨x0, x1, x2, x3, x4⟩ := hW.y; simp only [Nat.zero_add] at x1 x2 x3 x4; go_simp⟩) hS ?_
        simp only [Act.put, List.setIfInBounds_toArray, List.set_cons_zero, List.set_cons_succ]
        refine upto_one 9 (by rw [List.getElem?_toArray]; rfl) (by kernel_rfl) (fun K hK => ?_)
        go_simp
        refine (CP.out wr.drew HDR.out).mono ?_
        rintro e w2 ⟨⟨al3, cl3, ak3, ck3, d3, rfl, hbd3, hlp3, hkp3⟩, hb2⟩
        have HPX2 := hideK (HPXR.out.drew.keep hb2)
        have HB2 := hideK hb2
        have HS2 := hideK (HS0.out.drew.keep (fun b' o' h => hb2.cell (p := ⟨b', o', none⟩) (Nat.lt_of_le_of_lt h HPXR.out.lt)))
        have HBD3 := hideK hbd3
        have HLP3 := hideK hlp3
        have HKP3 := hideK hkp3
        have hsz2 : wr.heap.size ≤ w2.heap.size := hb2.size
        clear hbd3 hlp3 hkp3 hb2
        generalize hv3 : putT x s v = v3 at *
        have hSn := HS2.out
        refine hK.out _ _ hSn ?_
        clear hS hK K hSn
        intro hS
        try simp only [Act.put, List.setIfInBounds_toArray, List.set_cons_zero, List.set_cons_succ]
        refine upto_one 10 (by rw [List.getElem?_toArray]; rfl) (by kernel_rfl) (fun K hK => ?_)
        go_simp
        have hA2 : Below w2.heap.size w2 (w2.alloc (.cells #[.int .i64 v3.kind, .int .i64 v3.so, .string v3.name, .slice al3 v3.labels.length cl3, .slice ak3 v3.kids.length ck3] 25)) := (Below.refl _ _).alloc (Nat.le_refl _) _
        have HPX4 := hideK (HPX2.out.keep hA2)
        have HS4 := hideK (HS2.out.keep (fun b' o' h => hA2.cell (p := ⟨b', o', none⟩) (Nat.lt_of_le_of_lt h HPX2.out.lt)))
        have HA2 := hideK hA2
        have LR := hideK (World.ownsRow_lit (base := V.heap.size) (e := 25) (size := 5) w2 #[.int .i64 v3.kind, .int .i64 v3.so, .string v3.name, .slice al3 v3.labels.length cl3, .slice ak3 v3.kids.length ck3] 1 (by omega) (by decide) rfl)
        have OA := hideK (own_keep0 (own_keep0 HODR.out HB2.out) HA2.out)
        have hsz5 : (w2.alloc (.cells #[.int .i64 v3.kind, .int .i64 v3.so, .string v3.name, .slice al3 v3.labels.length cl3, .slice ak3 v3.kids.length ck3] 25)).heap.size = w2.heap.size + 1 := by simp
        clear hA2
        have hSn := HS4.out
        refine hK.out _ _ hSn ?_
        clear hS hK K hSn
        intro hS
        try simp only [Act.put, List.setIfInBounds_toArray, List.set_cons_zero, List.set_cons_succ]
        refine upto_one 11 (by rw [List.getElem?_toArray]; rfl) (by kernel_rfl) (fun K hK => ?_)
        refine step_append_rows _ rfl (.tmp 39) (.tmp 48) 23 rfl V.heap.size V.heap.size 25 i1 _ 5 80 Tryd.underlying23 hj hy0 hy1 hy2 rfl (by decide) _ _ _ rfl OA.out _ _ _ rfl LR.out (tC_one (v3, (al3, cl3), (ak3, ck3))) (by unfold maxLen; omega) (by omega) (by omega) ?_
        intro v7 w7 hO7 hg7 hat7
        have HO7 := hideK hO7
        have HG7 := hideK hg7
        have HAT7 := hideK hat7
        have HS7 := hideK (HS4.out.keep (fun b' o' h => World.cell?_of_block (a := ⟨b', o', none⟩) (hg7.block b' (Nat.lt_of_le_of_lt h HPX4.out.lt) (fun e => by have := (HUL.out b' e.symm).1; omega))))
        have f74 : w7.frozen? ⟨bo, 4, none⟩ = false := (World.frozen?_of_block (a := ⟨bo, 4, none⟩) (hg7.block bo HPX4.out.lt (fun e => by have := (HUL.out bo e.symm).1; omega))).trans HPX4.out.fo
        clear hg7 hat7
        obtain ⟨va, vc, rfl⟩ := sliceH_own hO7
        clear hO7
        have hSn := HS7.out
        refine hK.out _ _ hSn ?_
        clear hS hK K hSn
        intro hS
        try simp only [Act.put, List.setIfInBounds_toArray, List.set_cons_zero, List.set_cons_succ]
        refine upto_one 12 (by rw [List.getElem?_toArray]; rfl) (by kernel_rfl) (fun K hK => ?_)
        go_simp
        have hSn := hS
        refine hK.out _ _ hSn ?_
        clear hS hK K hSn
        intro hS
        try simp only [Act.put, List.setIfInBounds_toArray, List.set_cons_zero, List.set_cons_succ]
        have x7 := hS.c
        refine upto_last (by rw [List.getElem?_toArray]; rfl) (by kernel_rfl) (fun K hK => ?_)
        go_simp
        refine hK.out _ _ ?_
        clear hS hK K
        refine upto_done (by kernel_rfl) ?_ _
        go_wp2_with fail
        have hg7 := HG7.out
        have hfr : ∀ b, b < w2.heap.size → u.ownBlock ≠ some b → (Value.slice va (k + 1) vc).ownBlock ≠ some b := fun b hb hn e => by
          rcases HAT7.out with q | q
          · exact hn (q ▸ e)
          · rw [q] at e; injection e with e; omega
        have hs7 : w2.heap.size ≤ (w7.setCell ⟨bo, 4, none⟩ (Value.slice va (k + 1) vc)).heap.size := by have := hg7.size; simp; omega
        have hkB : ∀ b o, b < w2.heap.size → b ≠ bo → u.ownBlock ≠ some b → (w7.setCell ⟨bo, 4, none⟩ (Value.slice va (k + 1) vc)).cell? ⟨b, o, none⟩ = w2.cell? ⟨b, o, none⟩ := fun b o h1 h2 h3 => (World.cell?_setCell_other _ _ _ _ (by intro e; injection e with e; exact h2 e.symm)).trans ((World.cell?_of_block (a := ⟨b, o, none⟩) (hg7.block b (by omega) (fun e => h3 e.symm))).trans (HA2.out.cell (p := ⟨b, o, none⟩) h1))
        refine ⟨⟨k + 1, ts ++ [(v3, (al3, cl3), (ak3, ck3))], (Value.slice va (k + 1) vc), by omega, by go_num, HPX4.out.put hg7 (fun b e => by have := (HUL.out b e).1; omega), ?_, ?_, ?_, by omega⟩, by simp [intOf]; omega⟩
        · have := HO7.out
          rw [tCs_snoc]
          refine ⟨this.1, this.2.imp id fun ⟨g, cp, cur, q1, q2, q3, q4⟩ => ⟨g, cp, cur, q1, q2, ?_, q4⟩⟩
          rw [Below.heap_setCell _ _ _ g (fun e => by have e : g = bo := e; omega)]
          exact q3
        · rw [List.map_append, HMP.out, HMS.out]; rfl
        · intro q hq
          rcases List.mem_append.1 hq with hq | hq
          · refine HTR.out.keep (W' := w7.setCell ⟨bo, 4, none⟩ (Value.slice va (k + 1) vc)) (fun b o hb => ?_) (fun b hb => ?_) q hq
            · rcases hb with hb | ⟨hb1, hb2, hb3⟩
              · have hb' := HPB.out b hb
                exact (hkB b o (by omega) (by omega) (fun e => by have := (HUL.out b e).1; omega)).trans (HB2.out.cell (p := ⟨b, o, none⟩) (by show b < wr.heap.size; omega))
              · exact (hkB b o (by omega) (by omega) hb3).trans (HB2.out.cell (p := ⟨b, o, none⟩) hb2)
            · rcases hb with hb | ⟨hb1, hb2, hb3⟩
              · exact .inl hb
              · exact .inr ⟨hb1, by omega, hfr b (by omega) hb3⟩
          · obtain rfl := List.mem_singleton.1 hq
            have k1 : ∀ b o, (P b ∨ (wr.drew.heap.size ≤ b ∧ b < w2.heap.size)) → (w7.setCell ⟨bo, 4, none⟩ (Value.slice va (k + 1) vc)).cell? ⟨b, o, none⟩ = w2.cell? ⟨b, o, none⟩ := fun b o hb => by
              have hb : b < w.heap.size ∨ (wr.heap.size ≤ b ∧ b < w2.heap.size) := hb.imp (HPB.out b) id
              exact hkB b o (by omega) (by omega) (fun e => by have := HUL.out b e; omega)
            have k2 : ∀ b, (P b ∨ (wr.drew.heap.size ≤ b ∧ b < w2.heap.size)) → (P b ∨ (V.heap.size ≤ b ∧ b < (w7.setCell ⟨bo, 4, none⟩ (Value.slice va (k + 1) vc)).heap.size ∧ (Value.slice va (k + 1) vc).ownBlock ≠ some b)) := fun b hb => by
              have hb : P b ∨ (wr.heap.size ≤ b ∧ b < w2.heap.size) := hb
              exact hb.imp id fun ⟨h1, h2⟩ => ⟨by omega, by omega, hfr b h2 (fun e => by have := (HUL.out b e).2; omega)⟩
            exact ⟨HBD3.out, HLP3.out.keep k1 k2, d3, HKP3.out.keep k1 k2⟩
      · have hltz : ¬ (k : Int) < (t.kids.length : Int) := by omega
        obtain rfl : k = t.kids.length := by omega
        rw [List.take_length] at hmap
        obtain ⟨uk, uc, ud, rfl, hu1, hu2, hukp⟩ := kp_row (P := fun b => P b ∨ (w.heap.size ≤ b ∧ b < wr.heap.size ∧ b ≠ w.heap.size + 1 + 1)) hO (by have := congrArg List.length hmap; simpa using this) (hT.keep (fun _ _ _ => rfl) (fun b hb => hb.imp id fun ⟨h1, h2, _⟩ => ⟨by omega, h2, by omega⟩)) (fun b e => .inr ⟨by have := (hO.lt b e).1; omega, (hO.lt b e).2, by have := (hO.lt b e).1; omega⟩)
        rw [hmap] at hukp
        have HUKP := hideK hukp
        have HPXR := hideK hPX
        have o0 := hPX.o0
        have o1 := hPX.o1
        have o2 := hPX.o2
        have o3 := hPX.o3
        have o4 := hPX.o4
        obtain ⟨⟨zv0, zc0⟩, zf0⟩ := hPX.z 0 (by omega)
        obtain ⟨⟨zv1, zc1⟩, zf1⟩ := hPX.z 1 (by omega)
        obtain ⟨⟨zv2, zc2⟩, zf2⟩ := hPX.z 2 (by omega)
        obtain ⟨⟨zv3, zc3⟩, zf3⟩ := hPX.z 3 (by omega)
        obtain ⟨⟨zv4, zc4⟩, zf4⟩ := hPX.z 4 (by omega)
        clear hPX hO hmap hT hukp
        go_wp2_with fail
        have TA := px_st HPXR.out t al cl uk uc
        change TyAt (st5 wr (w.heap.size + 1 + 1) 0 (.int .i64 t.kind) (.int .i64 t.so) (.string t.name) (.slice al t.labels.length cl) (.slice uk t.kids.length uc)) _ _ _ _ _ _ _ ∧ Below _ _ (st5 wr (w.heap.size + 1 + 1) 0 (.int .i64 t.kind) (.int .i64 t.so) (.string t.name) (.slice al t.labels.length cl) (.slice uk t.kids.length uc)) at TA
        change bodyPost _ _ _ _ _ (st5 wr (w.heap.size + 1 + 1) 0 (.int .i64 t.kind) (.int .i64 t.so) (.string t.name) (.slice al t.labels.length cl) (.slice uk t.kids.length uc))
        have HKN : KP (st5 wr (w.heap.size + 1 + 1) 0 (.int .i64 t.kind) (.int .i64 t.so) (.string t.name) (.slice al t.labels.length cl) (.slice uk t.kids.length uc)) (fun b => P b ∨ (w.heap.size ≤ b ∧ b < (st5 wr (w.heap.size + 1 + 1) 0 (.int .i64 t.kind) (.int .i64 t.so) (.string t.name) (.slice al t.labels.length cl) (.slice uk t.kids.length uc)).heap.size)) ud (t.kids.map (putT x s)) uk := HUKP.out.keep (fun bb oo hbb => st5_other _ _ _ _ _ _ _ _ _ _ (.inl (by have hbb : P bb ∨ (w.heap.size ≤ bb ∧ bb < wr.heap.size ∧ bb ≠ w.heap.size + 1 + 1) := hbb; rcases hbb with q | q; have := HPB.out bb q; omega; omega))) (fun bb hbb => by have hbb : P bb ∨ (w.heap.size ≤ bb ∧ bb < wr.heap.size ∧ bb ≠ w.heap.size + 1 + 1) := hbb; show P bb ∨ (w.heap.size ≤ bb ∧ bb < (st5 wr (w.heap.size + 1 + 1) 0 (.int .i64 t.kind) (.int .i64 t.so) (.string t.name) (.slice al t.labels.length cl) (.slice uk t.kids.length uc)).heap.size); rw [st5_size]; exact hbb.imp id (fun q => ⟨q.1, q.2.1⟩))
        generalize st5 wr (w.heap.size + 1 + 1) 0 (.int .i64 t.kind) (.int .i64 t.so) (.string t.name) (.slice al t.labels.length cl) (.slice uk t.kids.length uc) = W9 at TA HKN ⊢
        obtain ⟨⟨r0, r1, r2, r3, r4⟩, hb9⟩ := TA
        simp only [Nat.zero_add] at r1 r2 r3 r4
        refine bodyPost_ret (v := .agg #[.int .i64 t.kind, .int .i64 t.so, .string t.name, .slice al t.labels.length cl, .slice uk t.kids.length uc]) (by simp [results, Tryd.results16, go_sem, r0, r1, r2, r3, r4]) rfl ?_
        exact ⟨⟨al, cl, uk, uc, by first | rfl | simp, ⟨HBD.out.name, HBD.out.labs, HBD.out.labels, HBD.out.cl, by simpa using hu1, hu2⟩, HLA.out.keep (fun b o hb => hb9.cell (p := ⟨b, o, none⟩) (HPB.out b hb)) (fun b hb => .inl hb), ud, HKN⟩, hb9⟩

theorem inPlace_any : ∀ N, INSaid N
  | 0 => fun x s t al cl ak ck d sal scl sak sck ds P w hs _ _ _ _ _ _ _ _ => by have := sizeT_eq t; omega
  | N + 1 => inPlace_step N (inPlace_any N)
end Go.Proofs.YthhbbhijpkoelaaDoor
