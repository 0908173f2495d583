/-
  TypesBack: the plain facts, and the walk through the law.
-/
import Derived.Test.YtefdekfgmbgbbaaDoorKx
import Derived.Test.YtefdekfgmbgbbaaDoorKy
import Derived.Test.YtefdekfgmbgbbaaDoorKf
namespace Go.Proofs.YtefdekfgmbgbbaaDoor
open Go.RowKit Go.Shelf

theorem parse_new (s : ByteArray) (t : Ty) (h : psT s.data.toList = .ok t) (w : World) :
    Calls Tryd.prog 6 #[.string s] w fun e w' => (∃ al cl ak ck, e = .returned (.tuple #[.agg #[.int .i64 t.kind, .int .i64 t.so, .string t.name, .slice al t.labels.length cl, .slice ak t.kids.length ck], .agg #[.int .i64 0, .int .i64 0]]) ∧ GT w w' 2001 t al cl ak ck) ∧ Below w.heap.size w w' := by
  have c := parse_any s w
  rw [h] at c
  exact c
theorem parse_ok (s : ByteArray) (t : Ty) (h : psT s.data.toList = .ok t) (w : World) :
    Calls Tryd.prog 6 #[.string s] w fun e w' => (∃ al cl ak ck, e = .returned (.tuple #[.agg #[.int .i64 t.kind, .int .i64 t.so, .string t.name, .slice al t.labels.length cl, .slice ak t.kids.length ck], .agg #[.int .i64 0, .int .i64 0]]) ∧ TyBd t cl ck ∧ LA w' w'.heap.size t.labels al ∧ KT w' w'.heap.size 2001 t.kids ak) ∧ Below w.heap.size w w' :=
  (parse_new s t h w).mono fun _ _ ⟨⟨al, cl, ak, ck, h1, h2⟩, h3⟩ => ⟨⟨al, cl, ak, ck, h1, h2.bd, h2.la.toLA (fun _ hb => hb.2), h2.ka.toKT (fun _ hb => hb.2)⟩, h3⟩
theorem parse_err (s : ByteArray) (c : Int) (a : Nat) (h : psT s.data.toList = .error (c, a)) (w : World) :
    Calls Tryd.prog 6 #[.string s] w fun e w' => e = .returned (.tuple #[.agg #[.int .i64 0, .int .i64 0, .string ⟨#[]⟩, .slice none 0 0, .slice none 0 0], .agg #[.int .i64 c, .int .i64 (a : Int)]]) ∧ Below w.heap.size w w' := by
  have cc := parse_any s w
  rw [h] at cc
  exact cc
theorem write_good (d : Nat) (t : Ty) (al : Option Addr) (cl : Nat) (ak : Option Addr) (ck : Nat) (w : World) (hbd : TyBd t cl ck) (hla : LA w w.heap.size t.labels al) (hkt : KT w w.heap.size d t.kids ak) (h : chkTy t = 0) :
    Calls Tryd.prog 5 #[.agg #[.int .i64 t.kind, .int .i64 t.so, .string t.name, .slice al t.labels.length cl, .slice ak t.kids.length ck]] w fun e w' => e = .returned (.tuple #[.string (bs (wrT t)), .int .i64 0]) ∧ Below w.heap.size w w' := by
  have c := typesWrite_any d t al cl ak ck w hbd hla hkt
  unfold wrR at c
  rw [if_pos h] at c
  exact c
theorem write_bad (d : Nat) (t : Ty) (al : Option Addr) (cl : Nat) (ak : Option Addr) (ck : Nat) (w : World) (hbd : TyBd t cl ck) (hla : LA w w.heap.size t.labels al) (hkt : KT w w.heap.size d t.kids ak) (h : chkTy t ≠ 0) :
    Calls Tryd.prog 5 #[.agg #[.int .i64 t.kind, .int .i64 t.so, .string t.name, .slice al t.labels.length cl, .slice ak t.kids.length ck]] w fun e w' => e = .returned (.tuple #[.string ⟨#[]⟩, .int .i64 (chkTy t)]) ∧ Below w.heap.size w w' := by
  have c := typesWrite_any d t al cl ak ck w hbd hla hkt
  unfold wrR at c
  rw [if_neg h] at c
  exact c
end Go.Proofs.YtefdekfgmbgbbaaDoor
