/-
  The contract of exprs.namesIn, for every right expression: the names, as they stand, in a row of its own.
-/
import Derived.Test.YtclbillfffpknaaGreatDoorXi
import Derived.Test.YtclbillfffpknaaGreatDoorXm
import Derived.Test.YtclbillfffpknaaGreatDoorPa
import Derived.Test.YtclbillfffpknaaGreatDoorPn
import Derived.Test.YtclbillfffpknaaGreatDoorYe
namespace Go.Proofs.YtclbillfffpknaaGreatDoor
open Go.RowKit Go.Shelf

theorem own_keep {W W' : World} {base : Nat} {e : TypeId} {size : Nat} {v : Value} {n : Nat} {xs : List Value} (h : W.ownsRow base e size v n xs) (hb : Below W.heap.size W W') : W'.ownsRow base e size v n xs := by
  refine ⟨h.1, h.2.imp id ?_⟩
  rintro ⟨g, cap, cur, h1, h2, h3, h4⟩
  refine ⟨g, cap, cur, h1, h2, ?_, h4⟩
  rw [hb.block g ?_]
  · exact h3
  · rcases Nat.lt_or_ge g W.heap.size with hlt | hge
    · exact hlt
    · rw [Array.getElem?_eq_none hge] at h3; cases h3
theorem own_mono {W : World} {base base' : Nat} {e : TypeId} {size : Nat} {v : Value} {n : Nat} {xs : List Value} (h : W.ownsRow base e size v n xs) (hb : base' ≤ base) : W.ownsRow base' e size v n xs :=
  ⟨h.1, h.2.imp id fun ⟨g, cap, cur, h1, h2, h3⟩ => ⟨g, cap, cur, h1, Nat.le_trans hb h2, h3⟩⟩
theorem own_from {W : World} {base : Nat} {e : TypeId} {size : Nat} {u : Value} {n : Nat} {xs : List Value} (h : W.ownsRow base e size u n xs) : ∀ k, u.ownBlock = some k → base ≤ k := fun k hk => (h.lt k hk).1
/-- the names of the first Kids -/
def preN (x : Ex) (k : Nat) : List ByteArray := ((x.kids.take k).map nmsX).flatten
theorem preN_succ (x : Ex) (k : Nat) (h : k < x.kids.length) : preN x (k + 1) = preN x k ++ nmsX x.kids[k] := by
  unfold preN
  rw [List.take_succ_eq_append_getElem h, List.map_append, List.flatten_append]
  simp
theorem preN_all (x : Ex) (h : ¬ x.kind = 2) : preN x x.kids.length = nmsX x := by
  unfold preN
  rw [List.take_length, nmsX_eq, if_neg h]
theorem flat_take (ks : List Ex) : ∀ k, ((ks.take k).map nmsX).flatten.length ≤ (ks.map sizeX).sum := by
  induction ks with
  | nil => intro k; simp
  | cons y ks ih =>
    intro k
    cases k with
    | zero => simp
    | succ k =>
      have h1 := nms_len y
      have h2 := ih k
      simp only [List.take_succ_cons, List.map_cons, List.flatten_cons, List.length_append, List.sum_cons]
      omega
theorem preN_len (x : Ex) (k : Nat) : (preN x k).length ≤ sizeX x := by
  rw [sizeX_eq]
  have := flat_take x.kids k
  unfold preN
  omega
theorem kid_size (x k : Ex) (h : k ∈ x.kids) : sizeX k ≤ sizeX x := by
  rw [sizeX_eq x]
  have : ∀ ks : List Ex, k ∈ ks → sizeX k ≤ (ks.map sizeX).sum := by
    intro ks
    induction ks with
    | nil => intro h; cases h
    | cons y ks ih =>
      intro h
      simp only [List.map_cons, List.sum_cons]
      rcases List.mem_cons.1 h with rfl | h
      · omega
      · have := ih h; omega
  have := this x.kids h
  omega
def NSaid (d : Nat) : Prop := ∀ (x : Ex) (ao : Option Addr) (cap B : Nat) (w : World), wfX x → sizeX x ≤ 60 → ExBd x cap → KA w B d x.kids ao → B ≤ w.heap.size →
  Calls Tryz.prog 15 #[exVal x ao cap] w fun e w' => ∃ v, e = .returned v ∧ w'.ownsRow w.heap.size 9 1 v (nmsX x).length ((nmsX x).map Value.string) ∧ Below w.heap.size w w'

set_option maxHeartbeats 1000000 in
theorem namesIn_a (x : Ex) (ao : Option Addr) (cap : Nat) (w : World) (hwf : wfX x) (h2 : x.kind = 2) :
    Calls Tryz.prog 15 #[exVal x ao cap] w fun e w' => ∃ v, e = .returned v ∧ w'.ownsRow w.heap.size 9 1 v (nmsX x).length ((nmsX x).map Value.string) ∧ Below w.heap.size w w' := by
  have cC := fun W => clone_any x.name W (wf_small x hwf).1
  rw [nmsX_eq, if_pos h2]
  simp only [exVal, List.length_singleton, List.map_cons, List.map_nil]
  rw [h2]
  clear hwf
  go_enter Tryz.func15, Tryz.ntmps15
  go_wp2_with fail
  refine (cC _).mono ?_
  rintro e w1 ⟨rfl, hb1⟩
  have hB : Below w.heap.size w w1 := ((Below.refl _ _).alloc (Nat.le_refl _) _).trans (hb1.mono (by simp))
  have hO := World.ownsRow_lit (base := w.heap.size) (e := 9) (size := 1) w1 #[.string x.name] 1 hB.size (by decide) rfl
  clear hb1 cC
  go_wp2_with fail
  go_ret
  exact ⟨_, rfl, hO, hB.alloc hB.size _⟩

set_option maxRecDepth 100000 in
set_option maxHeartbeats 2000000 in
theorem namesIn_step (d : Nat) (ih : ∀ d', d' < d → NSaid d') : NSaid d := by
  intro x ao cap B w hwf h60 hbd hka hB
  by_cases h2 : x.kind = 2
  · exact namesIn_a x ao cap w hwf h2
  · obtain ⟨i0, hi, hz0, hz1, hz2⟩ := info_parts infoStr
    have hkn : x.kids.length ≤ 2 := kids_two x hwf
    have hall := preN_all x h2
    rw [← hall]
    have hkb : (x.kind == 2) = false := by simpa using h2
    clear h2
    have HB0 : Below w.heap.size w (w.alloc (.cells #[.int .i64 x.kind, .string x.name, .int .i64 x.so, .int .i64 x.n, .string x.s, .slice ao x.kids.length cap] 26)) := (Below.refl _ _).alloc (Nat.le_refl _) _
    simp only [exVal]
    go_enter Tryz.func15, Tryz.ntmps15
    go_wp2_with fail
    go_loopw [3, 16] (fun v i wr => ∃ k : Nat, k ≤ x.kids.length ∧ i = .int .i64 (k : Int) ∧ wr.ownsRow w.heap.size 9 1 v (preN x k).length ((preN x k).map Value.string) ∧ Below w.heap.size w wr) (fun _ i _ => x.kids.length - (intOf i).toNat)
    case atStart => exact ⟨0, Nat.zero_le _, rfl, World.ownsRow_nil _ _ _ _, HB0⟩
    case round =>
      obtain ⟨k, hk, rfl, hO, hbr⟩ := hrel
      by_cases hlt : k < x.kids.length
      · have hltz : (k : Int) < (x.kids.length : Int) := by omega
        obtain ⟨d', rfl⟩ : ∃ d', d = d' + 1 := by
          cases d with
          | zero => simp only [KA] at hka; rw [hka] at hlt; simp at hlt
          | succ d' => exact ⟨d', rfl⟩
        rcases hka with e | ⟨b, o, rfl, hbB, hc⟩
        · rw [e] at hlt; simp at hlt
        · obtain ⟨ao', cap', hex, hxb, hkk⟩ := hc k hlt
          obtain ⟨y0, y1, y2, y3, y4, y5⟩ := hex.keep (hbr.mono hB) hbB
          have hwk : wfX x.kids[k] := ((wfX_eq x).1 hwf).2.2 _ (List.getElem_mem hlt)
          have hsk : sizeX x.kids[k] ≤ 60 := Nat.le_trans (kid_size x _ (List.getElem_mem hlt)) h60
          have hVK : Below wr.heap.size wr (wr.alloc (.cells #[.int .i64 x.kids[k].kind, .string x.kids[k].name, .int .i64 x.kids[k].so, .int .i64 x.kids[k].n, .string x.kids[k].s, .slice ao' x.kids[k].kids.length cap'] 26)) := (Below.refl _ _).alloc (Nat.le_refl _) _
          have hwV := hbr.trans (hVK.mono hbr.size)
          have cR := ih d' (by omega) x.kids[k] ao' cap' B (wr.alloc (.cells #[.int .i64 x.kids[k].kind, .string x.kids[k].name, .int .i64 x.kids[k].so, .int .i64 x.kids[k].n, .string x.kids[k].s, .slice ao' x.kids[k].kids.length cap'] 26)) hwk hsk hxb (hkk.keep (hwV.mono hB)) (by have := hwV.size; omega)
          have hps := preN_succ x k hlt
          have hpl := preN_len x (k + 1)
          rw [hps, List.length_append] at hpl
          simp only [exVal] at cR
          have HO := hide (hO.alloc (.cells #[.int .i64 x.kids[k].kind, .string x.kids[k].name, .int .i64 x.kids[k].so, .int .i64 x.kids[k].n, .string x.kids[k].s, .slice ao' x.kids[k].kids.length cap'] 26))
          have HPS := hide hps
          have HWV := hide hwV
          clear hO hVK hwV hps hc hkk hex ih hwk hsk hall HB0 hbd
          go_wp2_with fail
          clear y0 y1 y2 y3 y4 y5
          generalize wr.alloc (.cells #[.int .i64 x.kids[k].kind, .string x.kids[k].name, .int .i64 x.kids[k].so, .int .i64 x.kids[k].n, .string x.kids[k].s, .slice ao' x.kids[k].kids.length cap'] 26) = VK at *
          refine cR.mono ?_
          rintro e w2 ⟨v2, rfl, hO2, hb2⟩
          have hO1 := own_keep HO.out hb2
          have hB2 := HWV.out.trans (hb2.mono HWV.out.size)
          have h63 : (preN x k).length + (nmsX x.kids[k]).length ≤ maxLen := by unfold maxLen; omega
          have hby : ((preN x k).length + (nmsX x.kids[k]).length) * 16 ≤ 140737488355328 := by omega
          have h1c : ∀ y ∈ (nmsX x.kids[k]).map Value.string, y.oneCell' = true := by
            intro y hy
            obtain ⟨z, _, rfl⟩ := List.mem_map.1 hy
            rfl
          clear cR HO HWV
          go_wp2_with (at_builtin; refine wpList_append_rows _ rfl (.tmp 20) (.tmp 22) 28 rfl w.heap.size VK.heap.size 9 i0 (.string ⟨#[]⟩) 1 16 Tryz.underlying28 hi hz0 hz1 hz2 rfl (by decide) _ _ _ rfl hO1 _ _ _ rfl hO2 h1c h63 hby hB2.size ?_; intro v3 w3 hO3 hg3 _)
          go_roundw
          case rel =>
            refine ⟨k + 1, by omega, by go_num, ?_, hB2.grown hg3 hB2.size (own_from hO1)⟩
            rw [HPS.out, List.length_append, List.map_append]
            exact hO3
          case measure => simp [intOf]; omega
      · have hltz : ¬ (k : Int) < (x.kids.length : Int) := by omega
        have hkl : k = x.kids.length := by omega
        subst hkl
        clear ih hka hall HB0
        go_wp2_with fail
        go_ret
        exact ⟨_, rfl, hO, hbr⟩
theorem namesIn_any (d : Nat) : NSaid d := by
  induction d using Nat.strongRecOn with
  | _ d ih => exact namesIn_step d ih
end Go.Proofs.YtclbillfffpknaaGreatDoor
