/-
  The contract of duetkeep.hello.
-/
import Derived.Test.YtmamabhhgfcjcaaGreatDoorOqh
set_option maxRecDepth 100000
set_option maxHeartbeats 16000000
namespace Go.Proofs.YtmamabhhgfcjcaaGreatDoor
open Go.RowKit Go.Shelf
def exN:Ex:=⟨0,⟨#[]⟩,0,0,⟨#[]⟩,[]⟩
def tyN:Ty:=⟨0,0,⟨#[]⟩,[],[]⟩
def ex7:Ex:=⟨1,⟨#[]⟩,1,7,⟨#[]⟩,[]⟩
def exX:Ex:=⟨2,⟨#[120]⟩,0,0,⟨#[]⟩,[]⟩
def tyE:Ty:=⟨1,0,⟨#[]⟩,[],[]⟩
def tyS:Ty:=⟨2,1,⟨#[]⟩,[],[tyE]⟩
def mkP(kd:Int)(ch nm:ByteArray)(x:Ex)(t:Ty)(ks:List Pr):Pr:=⟨kd,ch,nm,⟨#[]⟩,x,[],[],t,[],ks⟩
def mkA(tk:OAd)(tkc:Nat)(ka:OAd)(kc:Nat):PrA:=⟨none,0,none,0,none,0,none,0,tk,tkc,none,0,ka,kc⟩
def stP:Pr:=mkP 1 ⟨#[]⟩ ⟨#[]⟩ exN tyN []
def enP:Pr:=mkP 8 ⟨#[99]⟩ ⟨#[]⟩ exN tyN [stP]
def chP:Pr:=mkP 2 ⟨#[99]⟩ ⟨#[]⟩ ex7 tyN [enP]
def syP:Pr:=mkP 12 ⟨#[]⟩ ⟨#[]⟩ exX tyN [enP]
def miP:Pr:=mkP 3 ⟨#[99]⟩ ⟨#[120]⟩ exN tyN [syP]
def boP:Pr:=mkP 9 ⟨#[99]⟩ ⟨#[]⟩ exN tyS [chP,miP]
def heD:Df:=⟨⟨#[109,97,105,110]⟩,[],[],[],[],boP⟩
theorem mkP_b{W:World}{B:Nat}{kd:Int}{ch nm:ByteArray}{x:Ex}{t:Ty}{ks:List Pr}{tk:OAd}{tkc:Nat}{ka:OAd}{kc:Nat}(h1:ch.size≤100)(h2:nm.size≤100)(h3:x.name.size≤100∧x.s.size≤100∧0≤x.n∧x.n≤100∧x.kids=[])(h4:t.name.size≤100∧t.labels=[]∧t.kids.length≤tkc∧tkc≤100)(h5:∃d,KT W B d t.kids tk)(h6:ks.length≤kc∧kc≤100):PrB W B (mkP kd ch nm x t ks) (mkA tk tkc ka kc):=by
 obtain ⟨a1,a2,a3,a4,a5⟩:=h3;obtain ⟨b1,b2,b3,b4⟩:=h4;refine ⟨by show ch.size≤_;omega,by show nm.size≤_;omega,by show (⟨#[]⟩:ByteArray).size≤_;decide,⟨by show x.name.size≤_;omega,by show x.s.size≤_;omega,by show _≤x.n;omega,by show x.n≤_;omega,by show x.kids.length≤0;rw [a5];decide,Nat.zero_le _⟩,⟨0,a5⟩,⟨nR _,Nat.zero_le _,0,rfl⟩,⟨fun l hl=>(by cases hl),nR _,Nat.zero_le _,.inl rfl⟩,⟨by show t.name.size≤_;omega,fun l hl=>(by change l∈t.labels at hl;rw [b2]at hl;cases hl),by show t.labels.length≤0;rw [b2];decide,Nat.zero_le _,b3,by show tkc≤_;omega⟩,.inl (by show t.labels.map _=[];rw [b2];rfl),h5,⟨fun l hl=>(by cases hl),nR _,Nat.zero_le _,.inl rfl⟩,h6.1,by show kc≤_;omega⟩
structure BOX(W:World)(b:Nat)(p:Pr)(a:PrA)(d:Nat):Prop where
 at0:PrAt W b 0 p a
 lt:b<W.heap.size
 ok:PrOK W W.heap.size d p a
theorem BOX.keep{W W':World}{b:Nat}{p:Pr}{a:PrA}{d:Nat}(h:BOX W b p a d)(hb:Below W.heap.size W W'):BOX W' b p a d :=
 ⟨h.at0.keep hb h.lt,nL h.lt hb.size,PrOK.mono hb.size (PrOK.keep hb h.ok)⟩
theorem BOX.mk1{W:World}{k:Pr}{ak:PrA}{d:Nat}(hk:PrOK W W.heap.size d k ak){p:Pr}{a:PrA}(hks:p.kids=[k])(ha:a.ka=some ⟨W.heap.size,0,none⟩)(hb:∀V,PrB V V.heap.size p a):BOX ((W.alloc (prBx k ak)).alloc (prBx p a)) (W.heap.size+1) p a (d+1):=by
 have hz:(W.alloc (prBx k ak)).heap.size=W.heap.size+1:=by simp
 have b1:Below W.heap.size W (W.alloc (prBx k ak)):=(bR _ _).alloc (nR _) _;have b2:Below (W.alloc (prBx k ak)).heap.size (W.alloc (prBx k ak)) ((W.alloc (prBx k ak)).alloc (prBx p a)):=(bR _ _).alloc (nR _) _;refine ⟨by rw [← hz];exact prBx_at _ p a,by simp,⟨hb _,.inr ⟨W.heap.size,0,ha,by simp;omega,?_⟩⟩⟩
 rw [hks];intro i hi;have hi0:i=0:=by simp at hi;exact hi
 subst hi0;refine ⟨ak,?_,PrOK.mono (by simp) (PrOK.keep b2 (PrOK.mono b1.size (PrOK.keep b1 hk)))⟩
 rw [Nat.zero_mul];exact (prBx_at W k ak).keep b2 (by simp)
theorem noKT(W:World)(B:Nat)(tk:OAd):∃d,KT W B d tyN.kids tk:=⟨0,rfl⟩
def hE(V:World):PrA:=mkA none 0 (some ⟨V.heap.size,0,none⟩) 1
def lnk(V:World)(k:Pr)(ak:PrA)(p:Pr):World:=(V.alloc (prBx k ak)).alloc (prBx p (hE V))
def tEo:Obj:=.cells #[.int .i64 1,.int .i64 0,.string ⟨#[]⟩,.slice none 0 0,.slice none 0 0] 37
def tSo(V:World):Obj:=.cells #[.int .i64 2,.int .i64 1,.string ⟨#[]⟩,.slice none 0 0,.slice (some ⟨V.heap.size,0,none⟩) 1 1] 37
def row2(a b:PrA):Obj:=.cells (prCs chP a++prCs miP b).toArray 40
def hDA(n5 n6:Nat):DfA:=⟨none,0,none,0,none,0,none,0,mkA (some ⟨n5,0,none⟩) 1 (some ⟨n6,0,none⟩) 2⟩
def lnkT(V:World):World:=(V.alloc tEo).alloc (tSo V)
def lnkD(n5 n6:Nat)(V6:World)(a b:PrA):World:=(V6.alloc (row2 a b)).alloc (dfBx heD (hDA n5 n6))
theorem lnk_set(V:World)(k:Pr)(ak:PrA)(p:Pr)(n i:Nat)(v:Value)(h:n<V.heap.size):(lnk V k ak p).setCell ⟨n,i,none⟩ v=lnk (V.setCell ⟨n,i,none⟩ v) k ak p∧hE (V.setCell ⟨n,i,none⟩ v)=hE V∧V.heap.size≤(lnk V k ak p).heap.size:=by
 unfold lnk hE;rw [World.setCell_alloc_past _ _ _ _ (by simp;omega),World.setCell_alloc_past _ _ _ _ h,World.size_setCell]
 exact ⟨rfl,rfl,by simp;omega⟩
theorem lnk_ok{V:World}{k:Pr}{ak:PrA}{d:Nat}(hk:PrOK V V.heap.size d k ak){p:Pr}(hks:p.kids=[k])(hb:∀W,PrB W W.heap.size p (hE V)):PrOK (lnk V k ak p) (lnk V k ak p).heap.size (d+1) p (hE V):=(BOX.mk1 hk hks rfl hb).ok
theorem hb0{kd:Int}{ch nm:ByteArray}{x:Ex}{ks:List Pr}{V:World}(h1:ch.size≤100)(h2:nm.size≤100)(h3:x.name.size≤100∧x.s.size≤100∧0≤x.n∧x.n≤100∧x.kids=[])(h4:ks.length≤1):∀W:World,PrB W W.heap.size (mkP kd ch nm x tyN ks) (hE V):=fun W=>mkP_b h1 h2 h3 ⟨by decide,rfl,nR _,by decide⟩ (noKT _ _ _) ⟨h4,by decide⟩
theorem lnk_bl(V:World)(k:Pr)(ak:PrA)(p:Pr):Below V.heap.size V (lnk V k ak p):=((bR _ _).alloc (nR _) _).alloc (by simp) _
theorem ok_up{V W:World}{d:Nat}{p:Pr}{a:PrA}(h:PrOK V V.heap.size d p a)(hb:Below V.heap.size V W):PrOK W W.heap.size d p a:=PrOK.mono hb.size (PrOK.keep hb h)
theorem helloMem(U:World):∀V2 V3 V4 V5 V6:World,V2=lnk U stP (mkA none 0 none 0) enP→V3=lnk V2 enP (hE U) chP→V4=lnk V3 enP (hE U) syP→V5=lnk V4 syP (hE V3) miP→V6=lnkT V5→DfsAt (lnkD V5.heap.size V6.heap.size V6 (hE V2) (hE V4)) (lnkD V5.heap.size V6.heap.size V6 (hE V2) (hE V4)).heap.size [heD] (some ⟨V6.heap.size+1,0,none⟩):=by
 intro V2 V3 V4 V5 V6 e2 e3 e4 e5 e6;have hst:PrOK U U.heap.size 0 stP (mkA none 0 none 0):=⟨mkP_b (by decide) (by decide) ⟨by decide,by decide,by decide,by decide,rfl⟩ ⟨by decide,rfl,nR _,by decide⟩ (noKT _ _ _) ⟨nR _,by decide⟩,rfl⟩
 have hen:PrOK V2 V2.heap.size 1 enP (hE U):=e2 ▸ lnk_ok hst rfl (hb0 (by decide) (by decide) ⟨by decide,by decide,by decide,by decide,rfl⟩ (nR _))
 have hch:PrOK V3 V3.heap.size 2 chP (hE V2):=e3 ▸ lnk_ok hen rfl (hb0 (by decide) (by decide) ⟨by decide,by decide,by decide,by decide,rfl⟩ (nR _))
 have b3:Below V2.heap.size V2 V3:=e3 ▸ lnk_bl _ _ _ _;have hsy:PrOK V4 V4.heap.size 2 syP (hE V3):=e4 ▸ lnk_ok (ok_up hen b3) rfl (hb0 (by decide) (by decide) ⟨by decide,by decide,by decide,by decide,rfl⟩ (nR _))
 have b4:Below V3.heap.size V3 V4:=e4 ▸ lnk_bl _ _ _ _;have hmi:PrOK V5 V5.heap.size 3 miP (hE V4):=e5 ▸ lnk_ok hsy rfl (hb0 (by decide) (by decide) ⟨by decide,by decide,by decide,by decide,rfl⟩ (nR _))
 have b5:Below V4.heap.size V4 V5:=e5 ▸ lnk_bl _ _ _ _;have b6:Below V5.heap.size V5 V6:=e6 ▸ ((bR _ _).alloc (nR _) _).alloc (by simp) _
 have b7:Below V6.heap.size V6 (V6.alloc (row2 (hE V2) (hE V4))):=(bR _ _).alloc (nR _) _;have b8:Below (V6.alloc (row2 (hE V2) (hE V4))).heap.size (V6.alloc (row2 (hE V2) (hE V4))) (lnkD V5.heap.size V6.heap.size V6 (hE V2) (hE V4)):=(bR _ _).alloc (nR _) _;have z7:(V6.alloc (row2 (hE V2) (hE V4))).heap.size=V6.heap.size+1:=by simp
 have z8:(lnkD V5.heap.size V6.heap.size V6 (hE V2) (hE V4)).heap.size=V6.heap.size+2:=by unfold lnkD;simp
 have z6:V6.heap.size=V5.heap.size+2:=by rw [e6];unfold lnkT;simp
 have hch8:=ok_up (ok_up (ok_up (ok_up (ok_up hch b4) b5) b6) b7) b8;have hmi8:=ok_up (ok_up (ok_up hmi b6) b7) b8;have hk:∃d,KT (lnkD V5.heap.size V6.heap.size V6 (hE V2) (hE V4)) (lnkD V5.heap.size V6.heap.size V6 (hE V2) (hE V4)).heap.size d tyS.kids (some ⟨V5.heap.size,0,none⟩):=by
  refine ⟨1,.inr ⟨V5.heap.size,0,rfl,by omega,fun i hi=>?_⟩⟩
  have hi0:i=0:=by change i<1 at hi;omega
  subst hi0;have q:∀o,(lnkD V5.heap.size V6.heap.size V6 (hE V2) (hE V4)).cell? ⟨V5.heap.size,o,none⟩=(#[.int .i64 1,.int .i64 0,.string ⟨#[]⟩,.slice none 0 0,.slice none 0 0]:Array Value)[o]?:=fun o=>by
   rw [b8.cell (p:=⟨V5.heap.size,o,none⟩) (by show V5.heap.size<_;omega),b7.cell (p:=⟨V5.heap.size,o,none⟩) (by show V5.heap.size<_;omega),e6]
   unfold lnkT;rw [((Below.refl (V5.alloc tEo).heap.size (V5.alloc tEo)).alloc (nR _) (tSo V5)).cell (p:=⟨V5.heap.size,o,none⟩) (by show V5.heap.size<_;simp)]
   exact World.cell?_alloc_at _ _ _ _ rfl
  exact ⟨none,0,none,0,⟨q 0,q 1,q 2,q 3,q 4⟩,⟨by show (⟨#[]⟩:ByteArray).size≤9223372036854775807;decide,(fun l hl=>by cases hl),nR _,Nat.zero_le _,nR _,Nat.zero_le _⟩,.inl rfl,rfl⟩
 have hbo:PrOK (lnkD V5.heap.size V6.heap.size V6 (hE V2) (hE V4)) (lnkD V5.heap.size V6.heap.size V6 (hE V2) (hE V4)).heap.size 4 boP (hDA V5.heap.size V6.heap.size).pa:=by
  refine ⟨mkP_b (by decide) (by decide) ⟨by decide,by decide,by decide,by decide,rfl⟩ ⟨by decide,rfl,nR _,by decide⟩ hk ⟨nR _,by decide⟩,.inr ⟨V6.heap.size,0,rfl,by omega,fun i hi=>?_⟩⟩
  have q:∀o,(lnkD V5.heap.size V6.heap.size V6 (hE V2) (hE V4)).cell? ⟨V6.heap.size,o,none⟩=(prCs chP (hE V2)++prCs miP (hE V4))[o]?:=fun o=>by
   rw [b8.cell (p:=⟨V6.heap.size,o,none⟩) (by show V6.heap.size<_;omega)]
   refine (World.cell?_alloc_at _ _ _ _ rfl).trans ?_;rw [List.getElem?_toArray]
  rcases (by change i<2 at hi;omega:i=0∨i=1) with rfl|rfl
  ·refine ⟨hE V2,fun j hj=>?_,PrOK.up (show 2≤3 by decide) hch8⟩
   rw [Nat.zero_mul,Nat.zero_add,q,List.getElem?_append_left (by show j<19;exact hj)]
   rfl
  ·refine ⟨hE V4,fun j hj=>?_,PrOK.up (show 3≤3 by decide) hmi8⟩
   rw [q,List.getElem?_append_right (by show 19≤_;omega)]
   show (prCs miP (hE V4))[0+1*19+j - 19]? = _
   rw [show 0+1*19+j - 19=j by omega]
   rfl
 refine .inr ⟨V6.heap.size+1,0,rfl,by omega,fun i hi=>?_⟩
 have hi0:i=0:=by change i<1 at hi;omega
 subst hi0;refine ⟨hDA V5.heap.size V6.heap.size,by rw [Nat.zero_mul,← z7];exact dfBx_at _ _ _,by show (⟨#[109,97,105,110]⟩:ByteArray).size≤9223372036854775807;decide,⟨(fun l hl=>by cases hl),nR _,Nat.zero_le _,.inl rfl⟩,nR _,Nat.zero_le _,.inl rfl,⟨(fun l hl=>by cases hl),nR _,Nat.zero_le _,.inl rfl⟩,⟨nR _,Nat.zero_le _,0,rfl⟩,4,hbo⟩
theorem helloFin(U:World)(n i:Nat)(v:Value)(hn:n<U.heap.size)(V2 V3 V4 V5 V6:World)(n6:Nat)(h6:n6=V6.heap.size)(e2:V2=lnk U stP (mkA none 0 none 0) enP)(e3:V3=lnk V2 enP (hE U) chP)(e4:V4=lnk V3 enP (hE U) syP)(e5:V5=lnk V4 syP (hE V3) miP)(e6:V6=lnkT V5):DfsAt ((lnkD V5.heap.size n6 V6 (hE V2) (hE V4)).setCell ⟨n,i,none⟩ v) ((lnkD V5.heap.size n6 V6 (hE V2) (hE V4)).setCell ⟨n,i,none⟩ v).heap.size [heD] (some ⟨n6+1,0,none⟩):=by
 obtain ⟨a2,c2,s2⟩:=lnk_set U stP (mkA none 0 none 0) enP n i v hn;rw [← e2]at a2 s2;obtain ⟨a3,c3,s3⟩:=lnk_set V2 enP (hE U) chP n i v (by omega)
 rw [← e3]at a3 s3;obtain ⟨a4,c4,s4⟩:=lnk_set V3 enP (hE U) syP n i v (by omega)
 rw [← e4]at a4 s4;obtain ⟨a5,c5,s5⟩:=lnk_set V4 syP (hE V3) miP n i v (by omega)
 rw [← e5]at a5 s5;have z6:V6.heap.size=V5.heap.size+2:=by rw [e6];unfold lnkT;simp
 have a6:V6.setCell ⟨n,i,none⟩ v=lnkT (V5.setCell ⟨n,i,none⟩ v):=by
  rw [e6];unfold lnkT tSo;rw [World.setCell_alloc_past _ _ _ _ (by simp;omega),World.setCell_alloc_past _ _ _ _ (by omega),World.size_setCell]
 have a8:(lnkD V5.heap.size n6 V6 (hE V2) (hE V4)).setCell ⟨n,i,none⟩ v=lnkD V5.heap.size n6 (V6.setCell ⟨n,i,none⟩ v) (hE V2) (hE V4):=by
  unfold lnkD;rw [World.setCell_alloc_past _ _ _ _ (by simp;omega),World.setCell_alloc_past _ _ _ _ (by omega)]
 have:=helloMem (U.setCell ⟨n,i,none⟩ v) (V2.setCell ⟨n,i,none⟩ v) (V3.setCell ⟨n,i,none⟩ v) (V4.setCell ⟨n,i,none⟩ v) (V5.setCell ⟨n,i,none⟩ v) (V6.setCell ⟨n,i,none⟩ v) a2 (by rw [c2];exact a3) (by rw [c2];exact a4) (by rw [c4];exact a5) a6
 rw [c3,c5,show (V5.setCell ⟨n,i,none⟩ v).heap.size=V5.heap.size from World.size_setCell _ _ _,show (V6.setCell ⟨n,i,none⟩ v).heap.size=n6 from (World.size_setCell _ _ _).trans h6.symm,← a8]at this
 exact this
structure HEL(w:World)(W:World):Prop where
 bl:Below w.heap.size w W
 lt:w.heap.size+1<W.heap.size
 z0:W.cell? ⟨w.heap.size,0,none⟩=some (.slice none 0 0)
 f0:W.frozen? ⟨w.heap.size,0,none⟩=false
 s0:W.cell? ⟨w.heap.size+1,0,none⟩=some (.int .i64 1)
 s1:W.cell? ⟨w.heap.size+1,1,none⟩=some (.string ⟨#[]⟩)
 s2:W.cell? ⟨w.heap.size+1,2,none⟩=some (.int .i64 1)
 s3:W.cell? ⟨w.heap.size+1,3,none⟩=some (.int .i64 7)
 s4:W.cell? ⟨w.heap.size+1,4,none⟩=some (.string ⟨#[]⟩)
 s5:W.cell? ⟨w.heap.size+1,5,none⟩=some (.slice none 0 0)
theorem HEL.keep{w W W':World}(h:HEL w W)(hb:Below W.heap.size W W'):HEL w W':=by
 have hl:=h.lt;have hs:=hb.size;have q:∀k o,k<W.heap.size→W'.cell? ⟨k,o,none⟩=W.cell? ⟨k,o,none⟩:=fun k o q=>hb.cell (p:=⟨k,o,none⟩) q
 exact ⟨h.bl.trans (hb.mono h.bl.size),by omega,(q _ _ (by omega)).trans h.z0,(hb.frozen (p:=⟨w.heap.size,0,none⟩) (by show w.heap.size<_;omega)).trans h.f0,(q _ _ hl).trans h.s0,(q _ _ hl).trans h.s1,(q _ _ hl).trans h.s2,(q _ _ hl).trans h.s3,(q _ _ hl).trans h.s4,(q _ _ hl).trans h.s5⟩
theorem HEL.new(w:World):HEL w ((w.alloc (.cells #[.slice none 0 0] 24)).alloc (.cells #[.int .i64 1,.string ⟨#[]⟩,.int .i64 1,.int .i64 7,.string ⟨#[]⟩,.slice none 0 0] 34)) :=
 ⟨((bR _ _).alloc (nR _) _).alloc (by simp) _,by simp,by go_cell,by go_simp,by go_cell,by go_cell,by go_cell,by go_cell,by go_cell,by go_cell⟩
theorem two_b{V:World}{a b:Obj}:Below V.heap.size V ((V.alloc a).alloc b):=((bR _ _).alloc (nR _) _).alloc (by simp) _
theorem hello_any(w:World):Calls Tryz.prog 12 #[] w fun e w'=>(∃ad,e = .returned (.agg #[.slice ad 1 1])∧DfsAt w' w'.heap.size [heD] ad)∧Below w.heap.size w w':=by
 have H1:=hideK (HEL.new w);go_enter Tryz.func12,Tryz.ntmps12
 go_upto_region 2 with fail
 have HV1:=hideK (show w.heap.size<((w.alloc (.cells #[.slice none 0 0] 24)).alloc (.cells #[.int .i64 1,.string ⟨#[]⟩,.int .i64 1,.int .i64 7,.string ⟨#[]⟩,.slice none 0 0] 34)).heap.size from by simp;omega)
 generalize ((w.alloc (.cells #[.slice none 0 0] 24)).alloc (.cells #[.int .i64 1,.string ⟨#[]⟩,.int .i64 1,.int .i64 7,.string ⟨#[]⟩,.slice none 0 0] 34))=V1 at *;refine wp_region_lit ?_;refine wpList_plain rfl (fun K hK=>?_)
 go_simp
 refine hK _ _ ?_;clear hK K;refine wpList_plain rfl (fun K hK=>?_)
 go_simp
 refine hK _ _ ?_;clear hK K;change wpList _ _ _ _ _ (World.alloc V1 (prBx (stP) (mkA none 0 none 0)))
 refine wpList_plain rfl (fun K hK=>?_)
 go_simp
 refine hK _ _ ?_;clear hK K;refine wpList_allocW rfl rfl (alloc_pr _) ?_;simp only [Act.put,sA,sB,sC];refine wpList_storeW rfl rfl rfl rfl (store_pr _ (enP) (hE V1)) ?_;simp only [Act.put];have HE:=hideK (BOX.mk1 (W:=V1) (k:=stP) (ak:=mkA none 0 none 0) (d:=0) ⟨mkP_b (by decide) (by decide) ⟨by decide,by decide,by decide,by decide,rfl⟩ ⟨by decide,rfl,nR _,by decide⟩ (noKT _ _ _) ⟨nR _,by decide⟩,rfl⟩ (p:=enP) (a:=hE V1) rfl rfl (fun V=>mkP_b (by decide) (by decide) ⟨by decide,by decide,by decide,by decide,rfl⟩ ⟨by decide,rfl,nR _,by decide⟩ (noKT _ _ _) ⟨nR _,by decide⟩))
 go_upto_region 3 with fail
 have hzz:(World.alloc V1 (prBx (stP) (mkA none 0 none 0))).heap.size=V1.heap.size+1:=by simp
 try simp only [hzz]
 clear hzz;have H1':=hideK (H1.out.keep (two_b (V:=V1) (a:=prBx (stP) (mkA none 0 none 0)) (b:=prBx (enP) (hE V1))));clear H1;have H1:=H1';clear H1';generalize hV2:(World.alloc V1 (prBx (stP) (mkA none 0 none 0))).alloc (prBx (enP) (hE V1))=V2 at *;have EV2:=hideK (show V2=lnk V1 (stP) (mkA none 0 none 0) (enP) from hV2.symm)
 clear hV2;refine wp_region_lit ?_;have s0:=H1.out.s0;have s1:=H1.out.s1;have s2:=H1.out.s2;have s3:=H1.out.s3;have s4:=H1.out.s4;have s5:=H1.out.s5;refine wpList_plain rfl (fun K hK=>?_)
 go_simp
 refine hK _ _ ?_;clear hK K;refine wpList_loadW rfl rfl rfl (load_pr HE.out.at0) ?_;simp only [Act.put,sA,sB,sC];simp only [prVal];refine wpList_plain rfl (fun K hK=>?_)
 go_simp
 refine hK _ _ ?_;clear hK K;change wpList _ _ _ _ _ (World.alloc V2 (prBx (enP) (hE V1)))
 refine wpList_plain rfl (fun K hK=>?_)
 go_simp
 refine hK _ _ ?_;clear hK K;refine wpList_allocW rfl rfl (alloc_pr _) ?_;simp only [Act.put,sA,sB,sC];refine wpList_storeW rfl rfl rfl rfl (store_pr _ (chP) (hE V2)) ?_;simp only [Act.put];have HC:=hideK (BOX.mk1 (W:=V2) (k:=enP) (ak:=hE V1) (d:=1) HE.out.ok (p:=chP) (a:=hE V2) rfl rfl (fun V=>mkP_b (by decide) (by decide) ⟨by decide,by decide,by decide,by decide,rfl⟩ ⟨by decide,rfl,nR _,by decide⟩ (noKT _ _ _) ⟨nR _,by decide⟩))
 clear s0 s1 s2 s3 s4 s5;go_upto_region 4 with fail
 have hzz:(World.alloc V2 (prBx (enP) (hE V1))).heap.size=V2.heap.size+1:=by simp
 try simp only [hzz]
 clear hzz;have H1':=hideK (H1.out.keep (two_b (V:=V2) (a:=prBx (enP) (hE V1)) (b:=prBx (chP) (hE V2))));clear H1;have H1:=H1';clear H1';have HE':=hideK (HE.out.keep (two_b (V:=V2) (a:=prBx (enP) (hE V1)) (b:=prBx (chP) (hE V2))));clear HE;have HE:=HE';clear HE';generalize hV3:(World.alloc V2 (prBx (enP) (hE V1))).alloc (prBx (chP) (hE V2))=V3 at *;have EV3:=hideK (show V3=lnk V2 (enP) (hE V1) (chP) from hV3.symm)
 clear hV3;refine wp_region_lit ?_;refine wpList_plain rfl (fun K hK=>?_)
 go_simp
 refine hK _ _ ?_;clear hK K;refine wpList_loadW rfl rfl rfl (load_pr HE.out.at0) ?_;simp only [Act.put,sA,sB,sC];simp only [prVal];refine wpList_plain rfl (fun K hK=>?_)
 go_simp
 refine hK _ _ ?_;clear hK K;change wpList _ _ _ _ _ (World.alloc V3 (prBx (enP) (hE V1)))
 refine wpList_plain rfl (fun K hK=>?_)
 go_simp
 refine hK _ _ ?_;clear hK K;refine wpList_allocW rfl rfl (alloc_pr _) ?_;simp only [Act.put,sA,sB,sC];refine wpList_storeW rfl rfl rfl rfl (store_pr _ (syP) (hE V3)) ?_;simp only [Act.put];have HS:=hideK (BOX.mk1 (W:=V3) (k:=enP) (ak:=hE V1) (d:=1) HE.out.ok (p:=syP) (a:=hE V3) rfl rfl (fun V=>mkP_b (by decide) (by decide) ⟨by decide,by decide,by decide,by decide,rfl⟩ ⟨by decide,rfl,nR _,by decide⟩ (noKT _ _ _) ⟨nR _,by decide⟩))
 go_upto_region 5 with fail
 have hzz:(World.alloc V3 (prBx (enP) (hE V1))).heap.size=V3.heap.size+1:=by simp
 try simp only [hzz]
 clear hzz;have H1':=hideK (H1.out.keep (two_b (V:=V3) (a:=prBx (enP) (hE V1)) (b:=prBx (syP) (hE V3))));clear H1;have H1:=H1';clear H1';have HC':=hideK (HC.out.keep (two_b (V:=V3) (a:=prBx (enP) (hE V1)) (b:=prBx (syP) (hE V3))));clear HC;have HC:=HC';clear HC';generalize hV4:(World.alloc V3 (prBx (enP) (hE V1))).alloc (prBx (syP) (hE V3))=V4 at *;have EV4:=hideK (show V4=lnk V3 (enP) (hE V1) (syP) from hV4.symm)
 clear hV4;clear HE;refine wp_region_lit ?_;refine wpList_loadW rfl rfl rfl (load_pr HS.out.at0) ?_;simp only [Act.put,sA,sB,sC];simp only [prVal];refine wpList_plain rfl (fun K hK=>?_)
 go_simp
 refine hK _ _ ?_;clear hK K;change wpList _ _ _ _ _ (World.alloc V4 (prBx (syP) (hE V3)))
 refine wpList_plain rfl (fun K hK=>?_)
 go_simp
 refine hK _ _ ?_;clear hK K;refine wpList_allocW rfl rfl (alloc_pr _) ?_;simp only [Act.put,sA,sB,sC];refine wpList_storeW rfl rfl rfl rfl (store_pr _ (miP) (hE V4)) ?_;simp only [Act.put];have HM:=hideK (BOX.mk1 (W:=V4) (k:=syP) (ak:=hE V3) (d:=2) HS.out.ok (p:=miP) (a:=hE V4) rfl rfl (fun V=>mkP_b (by decide) (by decide) ⟨by decide,by decide,by decide,by decide,rfl⟩ ⟨by decide,rfl,nR _,by decide⟩ (noKT _ _ _) ⟨nR _,by decide⟩))
 go_upto_region 6 with fail
 have hzz:(World.alloc V4 (prBx (syP) (hE V3))).heap.size=V4.heap.size+1:=by simp
 try simp only [hzz]
 clear hzz;have H1':=hideK (H1.out.keep (two_b (V:=V4) (a:=prBx (syP) (hE V3)) (b:=prBx (miP) (hE V4))));clear H1;have H1:=H1';clear H1';have HC':=hideK (HC.out.keep (two_b (V:=V4) (a:=prBx (syP) (hE V3)) (b:=prBx (miP) (hE V4))));clear HC;have HC:=HC';clear HC';generalize hV5:(World.alloc V4 (prBx (syP) (hE V3))).alloc (prBx (miP) (hE V4))=V5 at *;have EV5:=hideK (show V5=lnk V4 (syP) (hE V3) (miP) from hV5.symm)
 clear hV5;clear HS;go_upto_region 7 with fail
 have H6:=hideK (H1.out.keep (two_b (V:=V5) (a:=tEo) (b:=tSo V5)));have HC6:=hideK (HC.out.keep (two_b (V:=V5) (a:=tEo) (b:=tSo V5)));have HM6:=hideK (HM.out.keep (two_b (V:=V5) (a:=tEo) (b:=tSo V5)));clear H1 HC HM;refine wp_region_lit ?_;refine wpList_plain rfl (fun K hK=>?_)
 go_simp
 refine hK _ _ ?_;clear hK K;refine wpList_loadW rfl rfl rfl (load_pr HC6.out.at0) ?_;simp only [Act.put,sA,sB,sC];simp only [prVal];refine wpList_loadW rfl rfl rfl (load_pr HM6.out.at0) ?_;simp only [Act.put,sA,sB,sC];simp only [prVal];refine wpList_plain rfl (fun K hK=>?_)
 go_simp
 refine hK _ _ ?_;clear hK K;change wpList _ _ _ _ _ (World.alloc ((V5.alloc tEo).alloc (tSo V5)) (row2 (hE V2) (hE V4)))
 refine wpList_plain rfl (fun K hK=>?_)
 go_simp
 refine hK _ _ ?_;clear hK K;refine wpList_plain rfl (fun K hK=>?_)
 go_simp
 refine hK _ _ ?_;clear hK K;refine wpList_plain rfl (fun K hK=>?_)
 go_simp
 refine hK _ _ ?_;clear hK K;change wpList _ _ _ _ _ ((World.alloc ((V5.alloc tEo).alloc (tSo V5)) (row2 (hE V2) (hE V4))).alloc (dfBx heD (hDA V5.heap.size (V5.heap.size+1+1))))
 have H8:=hideK (H6.out.keep (two_b (V:=((V5.alloc tEo).alloc (tSo V5))) (a:=row2 (hE V2) (hE V4)) (b:=dfBx heD (hDA V5.heap.size (V5.heap.size+1+1)))));have HF:=hideK (show DfsAt (World.setCell ((World.alloc ((V5.alloc tEo).alloc (tSo V5)) (row2 (hE V2) (hE V4))).alloc (dfBx heD (hDA V5.heap.size (V5.heap.size+1+1)))) ⟨w.heap.size,0,none⟩ (.slice (some ⟨V5.heap.size+1+1+1,0,none⟩) 1 1)) (World.setCell ((World.alloc ((V5.alloc tEo).alloc (tSo V5)) (row2 (hE V2) (hE V4))).alloc (dfBx heD (hDA V5.heap.size (V5.heap.size+1+1)))) ⟨w.heap.size,0,none⟩ (.slice (some ⟨V5.heap.size+1+1+1,0,none⟩) 1 1)).heap.size [heD] (some ⟨V5.heap.size+1+1+1,0,none⟩) from helloFin V1 w.heap.size 0 (.slice (some ⟨V5.heap.size+1+1+1,0,none⟩) 1 1) HV1.out V2 V3 V4 V5 ((V5.alloc tEo).alloc (tSo V5)) (V5.heap.size+1+1) (by simp) EV2.out EV3.out EV4.out EV5.out rfl)
 have z0:=H8.out.z0;have f0:=H8.out.f0;have HB:=hideK (H8.out.bl.setCell (p:=⟨w.heap.size,0,none⟩) (nR _) (.slice (some ⟨V5.heap.size+1+1+1,0,none⟩) 1 1));clear H8 H6 HC6 HM6 EV2 EV3 EV4 EV5;generalize ((World.alloc ((V5.alloc tEo).alloc (tSo V5)) (row2 (hE V2) (hE V4))).alloc (dfBx heD (hDA V5.heap.size (V5.heap.size+1+1))))=V8 at *;have r0:=World.cell?_setCell_same _ _ (.slice (some ⟨V5.heap.size+1+1+1,0,none⟩) 1 1) z0;go_wp2_with fail
 refine bodyPost_ret (v:=.agg #[.slice (some ⟨V5.heap.size+1+1+1,0,none⟩) 1 1]) (by simp [results,Tryz.results12,go_sem,r0]) rfl ?_
 exact ⟨⟨_,rfl,HF.out⟩,HB.out⟩
theorem cls_ex{g:List Nd}(hs:shutG g):∃c,CLS g c:=by
 have:∀n k c,patG g k c→g.length - cnt c≤n→∃c,CLS g c:=by
  intro n;induction n with
  | zero =>
   intro k c hp hn;by_cases he:(splitG g c).1.length=cnt c
   ·exact ⟨_,cls_done hs hp he⟩
   ·have:=cls_more hs hp he;omega
  | succ n ih =>
   intro k c hp hn;by_cases he:(splitG g c).1.length=cnt c
   ·exact ⟨_,cls_done hs hp he⟩
   ·have h1:=cls_more hs hp he
    have h2:=(split_inv g c).cn;exact ih (k+1) (splitG g c).2 (pat_split hs hp) (by omega)
 exact this _ 0 _ (pat_zero g) (nR _)
theorem OFG_ex{t:Ty}(h:chkTy t=0):∃g,OFG t g:=by
 have hg:=lay_gn h;obtain ⟨c,hc⟩:∃c,CLS (layP t [] 0).2 c:=cls_ex hg.shut;exact ⟨_,⟨h,c,hc,rfl⟩⟩
structure BX3(w:World)(s:Ty)(sal:OAd)(scl:Nat)(sak:OAd)(sck:Nat)(t:Ty)(al:OAd)(cl:Nat)(ak:OAd)(ck:Nat)(u:Ty)(ual:OAd)(ucl:Nat)(uak:OAd)(uck:Nat)(W:World):Prop where
 x:TyAt W w.heap.size 0 s sal scl sak sck
 y:TyAt W (w.heap.size+1) 0 t al cl ak ck
 z:TyAt W (w.heap.size+1+1) 0 u ual ucl uak uck
 lt:w.heap.size+1+1<W.heap.size
 bl:Below w.heap.size w W
theorem BX3.keep{w:World}{s:Ty}{sal:OAd}{scl:Nat}{sak:OAd}{sck:Nat}{t:Ty}{al:OAd}{cl:Nat}{ak:OAd}{ck:Nat}{u:Ty}{ual:OAd}{ucl:Nat}{uak:OAd}{uck:Nat}{W W':World}(h:BX3 w s sal scl sak sck t al cl ak ck u ual ucl uak uck W)(hb:Below W.heap.size W W'):BX3 w s sal scl sak sck t al cl ak ck u ual ucl uak uck W' :=
 ⟨h.x.keep hb (by have:=h.lt;omega),h.y.keep hb (by have:=h.lt;omega),h.z.keep hb h.lt,nL h.lt hb.size,h.bl.trans (hb.mono h.bl.size)⟩
theorem BX3.new(w:World)(s:Ty)(sal:OAd)(scl:Nat)(sak:OAd)(sck:Nat)(t:Ty)(al:OAd)(cl:Nat)(ak:OAd)(ck:Nat)(u:Ty)(ual:OAd)(ucl:Nat)(uak:OAd)(uck:Nat):BX3 w s sal scl sak sck t al cl ak ck u ual ucl uak uck (((w.alloc (.cells #[.int .i64 s.kind,.int .i64 s.so,.string s.name,.slice sal s.labels.length scl,.slice sak s.kids.length sck] 37)).alloc (.cells #[.int .i64 t.kind,.int .i64 t.so,.string t.name,.slice al t.labels.length cl,.slice ak t.kids.length ck] 37)).alloc (.cells #[.int .i64 u.kind,.int .i64 u.so,.string u.name,.slice ual u.labels.length ucl,.slice uak u.kids.length uck] 37)) :=
 ⟨⟨by go_cell,by go_cell,by go_cell,by go_cell,by go_cell⟩,⟨by go_cell,by go_cell,by go_cell,by go_cell,by go_cell⟩,⟨by go_cell,by go_cell,by go_cell,by go_cell,by go_cell⟩,by simp,((((bR _ _).alloc (nR _) _).alloc (by simp) _).alloc (by simp;omega) _)⟩
theorem eL:(⟨#[]⟩:ByteArray).toList.isEmpty=true:=by rw [ByteArray.toList_eq];rfl
theorem x7_ok:chkX ex7=0:=by unfold chkX;rw [chkP_eq,if_neg (by decide),if_neg (by decide),if_pos (by decide)];show chkZ vD 1 7 ⟨#[]⟩=0;unfold chkZ;rw [if_pos rfl,eL];rfl
theorem xX_ok:chkX exX=0:=by unfold chkX;rw [chkP_eq,if_neg (by decide),if_neg (by decide),if_neg (by decide)];rfl
theorem s7(E:ByteArray→Int × Int):sortX E ex7=(1,0):=by unfold ex7;rw [sortX];rfl
theorem sX(E:ByteArray→Int × Int):sortX E exX=E ⟨#[120]⟩:=by unfold exX;rw [sortX];rfl
theorem lkX:lookS [⟨#[120]⟩] [1] ⟨#[120]⟩=(1,0):=by decide
section
variable (gr og:Ty→List Nd) (ds:List Df)
theorem getE_one(n:ByteArray)(x:En):getE [(n,x)] n=some x:=by unfold getE;simp
theorem putE_one(n:ByteArray)(x y:En):putE [(n,x)] n y=[(n,y)]:=by unfold putE delE;simp
theorem delE_one(n:ByteArray)(x:En):delE [(n,x)] n=[]:=by unfold delE;simp
theorem ck_st(vs:List ByteArray)(ss:List Int):ckR gr og ds stP ⟨vs,ss,[]⟩=0:=by rw [ckR_eq];rfl
theorem ck_en(vs:List ByteArray)(ss:List Int)(x:En)(hk:(hereE x).kind=1):ckR gr og ds enP ⟨vs,ss,[(⟨#[99]⟩,x)]⟩=0:=by
 have hg:getE (⟨vs,ss,[(⟨#[99]⟩,x)]⟩:Sc).es enP.chan=some x:=getE_one _ x;have hb:behP enP ⟨vs,ss,[(⟨#[99]⟩,x)]⟩=(⟨vs,ss,[]⟩,0):=by
  unfold behP;rw [if_neg (by decide),if_neg (by decide)]
  rw [hg];simp only;rw [if_neg (by rw [hk];decide)]
  unfold behD;rw [if_neg (by decide),if_neg (by decide),if_neg (by decide),if_neg (by decide),if_neg (by decide)]
  show ((⟨vs,ss,delE [(⟨#[99]⟩,x)] ⟨#[99]⟩⟩:Sc),(0:Int))=_
  rw [delE_one]
 rw [ckR_eq];unfold ckB;rw [if_neg (by decide),if_neg (by decide),if_neg (by decide),if_neg (by decide),if_neg (by decide),hb]
 exact ck_st gr og ds vs ss
theorem ck_ch(x:En)(hk:(hereE x).kind=2)(hs:(hereE x).so=1)(h1:(hereE (toE x 0)).kind=1):ckR gr og ds chP ⟨[],[],[(⟨#[99]⟩,x)]⟩=0:=by
 have hg:getE (⟨[],[],[(⟨#[99]⟩,x)]⟩:Sc).es chP.chan=some x:=getE_one _ x;have hb:behP chP ⟨[],[],[(⟨#[99]⟩,x)]⟩=(⟨[],[],[(⟨#[99]⟩,toE x 0)]⟩,0):=by
  unfold behP;rw [if_neg (by decide),if_neg (by decide)]
  rw [hg];simp only;rw [if_neg (by rw [hk];decide)]
  unfold behD;rw [if_pos (by decide),hs]
  show ((⟨[],[],putE [(⟨#[99]⟩,x)] ⟨#[99]⟩ (toE x 0)⟩:Sc),_)=_
  rw [putE_one];have hw:wntS ⟨[],[],[(⟨#[99]⟩,x)]⟩ chP.ex 1=0:=by
   unfold wntS srtR;rw [if_pos (show chkX chP.ex=0 from x7_ok),show sortX (lookS [] []) chP.ex=(1,0) from s7 _]
   rfl
  exact Prod.ext rfl hw
 rw [ckR_eq];unfold ckB;rw [if_neg (by decide),if_neg (by decide),if_neg (by decide),if_neg (by decide),if_neg (by decide),hb]
 exact ck_en gr og ds [] [] (toE x 0) h1
theorem ck_mi(x:En)(hk:(hereE x).kind=3)(hs:(hereE x).so=1)(h1:(hereE (toE x 0)).kind=1):ckR gr og ds miP ⟨[],[],[(⟨#[99]⟩,x)]⟩=0:=by
 have hg:getE (⟨[],[],[(⟨#[99]⟩,x)]⟩:Sc).es miP.chan=some x:=getE_one _ x;have hb:behP miP ⟨[],[],[(⟨#[99]⟩,x)]⟩=(⟨[⟨#[120]⟩],[1],[(⟨#[99]⟩,toE x 0)]⟩,0):=by
  unfold behP;rw [if_neg (by decide),if_neg (by decide)]
  rw [hg];simp only;rw [if_neg (by rw [hk];decide)]
  unfold behD;rw [if_neg (by decide),if_pos (by decide),hs]
  show ((⟨[⟨#[120]⟩],[1],putE [(⟨#[99]⟩,x)] ⟨#[99]⟩ (toE x 0)⟩:Sc),_)=_
  rw [putE_one]
 have hy:behP syP ⟨[⟨#[120]⟩],[1],[(⟨#[99]⟩,toE x 0)]⟩=(⟨[⟨#[120]⟩],[1],[(⟨#[99]⟩,toE x 0)]⟩,0):=by
  unfold behP;rw [if_neg (by decide),if_pos (by decide)]
  have hsr:(srtR syP.ex [⟨#[120]⟩] [1]).2=0:=by
   unfold srtR;rw [if_pos (show chkX syP.ex=0 from xX_ok),show sortX (lookS [⟨#[120]⟩] [1]) syP.ex=(1,0) from (sX _).trans lkX]
  exact Prod.ext rfl hsr
 rw [ckR_eq];unfold ckB;rw [if_neg (by decide),if_neg (by decide),if_neg (by decide),if_neg (by decide),if_neg (by decide),hb]
 show ckR gr og ds syP ⟨[⟨#[120]⟩],[1],[(⟨#[99]⟩,toE x 0)]⟩=0
 rw [ckR_eq];unfold ckB;rw [if_neg (by decide),if_neg (by decide),if_neg (by decide),if_neg (by decide),if_neg (by decide),hy]
 exact ck_en gr og ds [⟨#[120]⟩] [1] (toE x 0) h1
theorem two_lv{g:List Nd}{k s:Int}(h:gT g 2 0=⟨k,s,[],[⟨1,0,[],[]⟩]⟩):(hereE ⟨g,0⟩).kind=k∧(hereE ⟨g,0⟩).so=s∧(hereE (toE ⟨g,0⟩ 0)).kind=1:=by
 rw [gT_succ]at h;injection h with h1 h2 h3 h4
 refine ⟨h1,h2,?_⟩;show (nodeAt g ((nodeAt g 0).to.getD 0 0)).kind=1
 cases ht:(nodeAt g 0).to with
 | nil=>rw [ht]at h4;cases h4
 | cons j l =>
  rw [ht]at h4;injection h4 with h5 h6
  rw [gT_succ]at h5;injection h5
theorem pS:partT tyS=true:=by unfold partT;simp [tyS,tyE]
theorem pE:partT tyE=true:=by unfold partT;simp [tyE]
theorem tS_ok:chkTy tyS=0:=by
 unfold chkTy;rw [chkT_eq,if_neg (by decide),if_neg (by rw [pS];simp),if_neg (by rintro ⟨h,_⟩;revert h;decide),if_neg (by rintro ⟨h,_⟩;revert h;decide)]
 show (chkTL [] [tyE] (0,1)).1=0
 rw [chkTL_cons,if_neg (by decide),chkT_eq,if_neg (by decide),if_neg (by rw [pE];simp),if_neg (by rintro ⟨h,_⟩;revert h;decide),if_neg (by rintro ⟨h,_⟩;revert h;decide)]
 rfl
theorem den_tS:den tyS e0 2=⟨2,1,[],[⟨1,0,[],[]⟩]⟩:=by
 rw [den_node tyS e0 (by decide) (by decide)]
 show stD 2 1 [] [den tyE e0] 2=_
 rw [den_node tyE e0 (by decide) (by decide)]
 rfl
theorem hello_gr(hgr:∀t g,chkTy t=0→OFG t g→g=gr t):gT (gr tyS) 2 0=⟨2,1,[],[⟨1,0,[],[]⟩]⟩:=by
 obtain ⟨g,hg⟩:=OFG_ex tS_ok;rw [← hgr tyS g tS_ok hg,hg.does 2,den_tS]
theorem hello_og(hog:∀t g,chkTy t=0→OTG t g→g=og t):gT (og tyS) 2 0=⟨3,1,[],[⟨1,0,[],[]⟩]⟩:=by
 obtain ⟨g,hg⟩:=OFG_ex tS_ok;have hgl:g.length≤100:=by have:=hg.le;omega
 have hgn:=oth_gn hg.gn hgl;obtain ⟨c,hc⟩:=cls_ex hgn.shut;have ho:OTG tyS (leastG (othG g) c):=⟨g,c,hg,hc,rfl⟩;rw [← hog tyS _ tS_ok ho,(least_alike hgn.shut hc hgn.pos).1 2];have hd:=hg.does 2;rw [den_tS,gT_succ]at hd;injection hd with h1 h2 h3 h4
 have hp:=hg.gn.pos;rw [gT_succ,oth_at1 hp];show (⟨kdD (nodeAt g 0).kind,(nodeAt g 0).so,(nodeAt g 0).labs,(tuL (nodeAt g 0) g.length).map (gT (othG g) 1)⟩:Tr)=_
 have ht:tuL (nodeAt g 0) g.length=(nodeAt g 0).to:=by unfold tuL;rw [if_neg (by rw [h1];decide)]
 rw [ht,h1,h2,h3];cases hq:(nodeAt g 0).to with
 | nil=>rw [hq]at h4;cases h4
 | cons j l =>
  rw [hq]at h4;injection h4 with h5 h6
  have hl:l=[]:=by cases l with|nil=>rfl|cons=>cases h6
  subst hl;have hj:j<g.length:=shut_at hg.gn.shut 0 j (by rw [hq];exact List.mem_cons_self)
  rw [gT_succ]at h5;injection h5 with k1 k2 k3 k4
  show (⟨3,1,[],[gT (othG g) 1 j]⟩:Tr)=_
  rw [gT_succ,oth_at1 hj];show (⟨3,1,[],[⟨kdD (nodeAt g j).kind,(nodeAt g j).so,(nodeAt g j).labs,(tuL (nodeAt g j) g.length).map (gT (othG g) 0)⟩]⟩:Tr)=_
  have ht2:tuL (nodeAt g j) g.length=(nodeAt g j).to:=by unfold tuL;rw [if_neg (by rw [k1];decide)]
  have hto:(nodeAt g j).to=[]:=by cases hz:(nodeAt g j).to with|nil=>rfl|cons=>rw [hz]at k4;cases k4
  rw [ht2,hto,k1,k2,k3];rfl
theorem sh_one(p:Pr)(c:Nat)(hc:c<200)(hp:partP p=true)(hi:insP p=0):shpR p c=shpL p.kids (0,c+1):=by
 rw [shpR_eq,if_neg (by omega),if_neg (by rw [hp];simp),if_neg (by simpa using hi)]
theorem in_st:insP stP=0:=by unfold insP;rfl
theorem in_en:insP enP=0:=by unfold insP;rfl
theorem in_mi:insP miP=0:=by unfold insP;rfl
theorem in_ch:insP chP=0:=by
 unfold insP;rw [if_neg (by decide),if_pos (by decide)]
 exact x7_ok
theorem in_sy:insP syP=0:=by
 unfold insP;rw [if_neg (by decide),if_pos (by decide)]
 exact xX_ok
theorem in_bo:insP boP=0:=by
 unfold insP;rw [if_neg (by decide),if_neg (by decide),if_pos (by decide)]
 exact tS_ok
theorem pp_st:partP stP=true:=by decide
theorem pp_en:partP enP=true:=by decide
theorem pp_ch:partP chP=true:=by decide
theorem pp_sy:partP syP=true:=by decide
theorem pp_mi:partP miP=true:=by decide
theorem pp_bo:partP boP=true:=by decide
theorem sh_st(c:Nat)(hc:c<200):shpR stP c=(0,c+1):=sh_one stP c hc pp_st in_st
theorem sh_en(c:Nat)(hc:c<199):shpR enP c=(0,c+2):=by
 rw [sh_one enP c (by omega) pp_en in_en]
 show shpL [stP] (0,c+1)=_
 rw [shpL_cons,if_neg (by simp),sh_st _ (by show c+1<200;omega)]
 rfl
theorem sh_ch(c:Nat)(hc:c<198):shpR chP c=(0,c+3):=by
 rw [sh_one chP c (by omega) pp_ch in_ch]
 show shpL [enP] (0,c+1)=_
 rw [shpL_cons,if_neg (by simp),sh_en _ (by show c+1<199;omega)]
 rfl
theorem sh_sy(c:Nat)(hc:c<198):shpR syP c=(0,c+3):=by
 rw [sh_one syP c (by omega) pp_sy in_sy]
 show shpL [enP] (0,c+1)=_
 rw [shpL_cons,if_neg (by simp),sh_en _ (by show c+1<199;omega)]
 rfl
theorem sh_mi(c:Nat)(hc:c<197):shpR miP c=(0,c+4):=by
 rw [sh_one miP c (by omega) pp_mi in_mi]
 show shpL [syP] (0,c+1)=_
 rw [shpL_cons,if_neg (by simp),sh_sy _ (by show c+1<198;omega)]
 rfl
theorem sh_bo:(shpR boP 0).1=0:=by
 rw [sh_one boP 0 (by omega) pp_bo in_bo]
 show (shpL [chP,miP] (0,1)).1=0
 rw [shpL_cons,if_neg (by decide),sh_ch _ (by decide),shpL_cons,if_neg (by decide),sh_mi _ (by decide)]
 rfl
theorem he_hd:hedD heD=true:=by decide
theorem he_ok:shpP [heD]=0:=by
 unfold shpP;rw [if_neg (by decide),if_neg (by decide)]
 show (shpD heD 0).1=0
 unfold shpD;rw [if_neg (by rw [he_hd];simp),if_neg (by decide)]
 exact sh_bo
theorem hello_right(hgr:∀t g,chkTy t=0→OFG t g→g=gr t)(hog:∀t g,chkTy t=0→OTG t g→g=og t):ckP gr og [heD]=(0,0):=by
 rw [ckP_ok gr og heD [] he_ok,if_neg (by decide)]
 have ho:ownsG [] [heD]=none:=by decide
 rw [ho];obtain ⟨g1,g2,g3⟩:=two_lv (hello_gr gr hgr);obtain ⟨o1,o2,o3⟩:=two_lv (hello_og og hog);have hb:ckR gr og [heD] boP (scD gr heD)=0:=by
  rw [ckR_eq];unfold ckB;rw [if_neg (by decide),if_neg (by decide),if_pos (by decide)]
  have e1:=ck_ch gr og [heD] ⟨gr tyS,0⟩ g1 g2 g3;have e2:=ck_mi gr og [heD] ⟨og tyS,0⟩ o1 o2 o3;show (if ckR gr og [heD] chP ⟨[],[],[(⟨#[99]⟩,⟨gr tyS,0⟩)]⟩≠0 then ckR gr og [heD] chP ⟨[],[],[(⟨#[99]⟩,⟨gr tyS,0⟩)]⟩ else ckR gr og [heD] miP ⟨[],[],[(⟨#[99]⟩,⟨og tyS,0⟩)]⟩)=0
  rw [if_neg (by rw [e1];simp),e2]
 show bdsG gr og [heD] [heD] 0=(0,0)
 rw [bdsG,if_neg (by show ¬ckR gr og [heD] boP (scD gr heD)≠0;rw [hb];simp)]
 rfl
end
structure CMB(w:World)(ad:OAd)(ds:List Df)(cd:Nat)(n:ByteArray)(W:World):Prop where
 bl:Below w.heap.size w W
 lt:w.heap.size+1<W.heap.size
 p0:W.cell? ⟨w.heap.size,0,none⟩=some (.slice ad ds.length cd)
 n0:W.cell? ⟨w.heap.size+1,0,none⟩=some (.string n)
theorem CMB.keep{w:World}{ad:OAd}{ds:List Df}{cd:Nat}{n:ByteArray}{W W':World}(h:CMB w ad ds cd n W)(hb:Below W.heap.size W W'):CMB w ad ds cd n W':=by
 have hl:=h.lt;exact ⟨h.bl.trans (hb.mono h.bl.size),nL hl hb.size,(hb.cell (p:=⟨w.heap.size,0,none⟩) (by show w.heap.size<_;omega)).trans h.p0,(hb.cell (p:=⟨w.heap.size+1,0,none⟩) hl).trans h.n0⟩
theorem CMB.new(w:World)(ad:OAd)(ds:List Df)(cd:Nat)(n:ByteArray):CMB w ad ds cd n ((w.alloc (.cells #[.slice ad ds.length cd] 24)).alloc (.cells #[.string n] 9)) :=
 ⟨((bR _ _).alloc (nR _) _).alloc (by simp) _,by simp,by go_cell,by go_cell⟩
theorem more_ok(W:World)(B:Nat)(n:ByteArray)(hn:n.size≤9223372036854775807):DfOK W B (moreD n) da0 :=
 ⟨hn,⟨(fun l hl=>by cases hl),nR _,Nat.zero_le _,.inl rfl⟩,nR _,Nat.zero_le _,.inl rfl,⟨(fun l hl=>by cases hl),nR _,Nat.zero_le _,.inl rfl⟩,⟨nR _,Nat.zero_le _,0,rfl⟩,0,(⟨mkP_b (kd:=1) (ch:=⟨#[]⟩) (nm:=⟨#[]⟩) (x:=exN) (t:=tyN) (ks:=[]) (tk:=none) (tkc:=0) (ka:=none) (kc:=0) (by decide) (by decide) ⟨by decide,by decide,by decide,by decide,rfl⟩ ⟨by decide,rfl,nR _,by decide⟩ (noKT _ _ _) ⟨nR _,by decide⟩,rfl⟩:PrOK W B 0 stP (mkA none 0 none 0))⟩
end Go.Proofs.YtmamabhhgfcjcaaGreatDoor
