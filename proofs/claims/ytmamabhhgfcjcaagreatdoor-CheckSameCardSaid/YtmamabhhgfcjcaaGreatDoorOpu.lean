/-
  A scope whose rows are older than w0 or new; what stands behind a process, of every kind: check.behindDoing and check.behind whole.
-/
import Derived.Test.YtmamabhhgfcjcaaGreatDoorOpr
set_option maxRecDepth 100000
set_option maxHeartbeats 16000000
namespace Go.Proofs.YtmamabhhgfcjcaaGreatDoor
open Go.RowKit Go.Shelf
structure ScV(w0 W:World)(s:Sc)(b:ScA):Prop where
 siz:∀l∈s.vs,l.size≤9223372036854775807
 vl:s.vs.length≤b.vc
 vc:b.vc≤9223372036854775807
 sl:s.ss.length≤b.sc
 sc:b.sc≤9223372036854775807
 eq:s.vs.length=s.ss.length
 va:NAt w0 w0.heap.size (s.vs.map Value.string) b.va∨(s.vs≠[]∧RowN w0 W (s.vs.map Value.string) b.va b.vc)
 sa:NAt w0 w0.heap.size (s.ss.map (Value.int .i64)) b.sa∨(s.ss≠[]∧RowN w0 W (s.ss.map (Value.int .i64)) b.sa b.sc)
 es:GSc w0 W s.es b.mp
theorem GSc.scm{w0 W:World}{es:List (ByteArray × En)}{mp:Option Nat}(h:GSc w0 W es mp)(hb:Below w0.heap.size w0 W):ScM W mp es:=by
 obtain ⟨F,e,h1,h2⟩:=h;rcases h2 with ⟨rfl,rfl⟩|⟨b,rfl,h3⟩
 ·exact .inl ⟨rfl,e⟩
 ·exact .inr ⟨b,F,rfl,h3,e,fun t ht=>(h1 t ht).keep hb⟩
theorem ScV.at0{w0 W:World}{s:Sc}{b:ScA}(h:ScV w0 W s b)(hb:Below w0.heap.size w0 W):ScAt W s b :=
 ⟨⟨h.siz,h.vl,h.vc,h.va.elim (fun q=>NAt.mono hb.size (NAt.keep hb q)) (fun q=>q.2.nat)⟩,h.sa.elim (fun q=>NAt.mono hb.size (NAt.keep hb q)) (fun q=>q.2.nat),h.sl,h.sc,h.eq,h.es.scm hb⟩
theorem ScV.keep{w0 W W':World}{s:Sc}{b:ScA}(h:ScV w0 W s b)(hb:Below W.heap.size W W'):ScV w0 W' s b :=
 ⟨h.siz,h.vl,h.vc,h.sl,h.sc,h.eq,h.va.imp id (fun q=>⟨q.1,q.2.keep hb⟩),h.sa.imp id (fun q=>⟨q.1,q.2.keep hb⟩),h.es.keep hb⟩
theorem RowN.blk{w0 W W':World}{vs:List Value}{aa:OAd}{ca:Nat}(h:RowN w0 W vs aa ca){q:Nat}{u:Value}(hz:W.cell? ⟨q,0,none⟩=some u)(hv:∀v∈vs,v≠u)(hne:vs≠[])(hb:∀k,k≠q→W'.heap[k]? = W.heap[k]?):RowN w0 W' vs aa ca:=by
 obtain ⟨⟨r,e,h1,h2,h3⟩,hl,hc⟩:=h;have hr:r≠q:=by
  rintro rfl;have hp:0<vs.length:=List.length_pos_iff.2 hne;have:=h3 0 hp;rw [Nat.zero_add,hz]at this;exact hv _ (List.getElem_mem hp) (Option.some.inj this).symm
 refine ⟨⟨r,e,h1,?_,fun i hi=>by rw [World.cell?_of_block (a:=⟨r,0+i,none⟩) (hb r hr)];exact h3 i hi⟩,hl,hc⟩
 have q1:W.heap[r]? = some W.heap[r]:=Array.getElem?_eq_getElem h2;rw [← hb r hr]at q1;exact (Array.getElem?_eq_some_iff.1 q1).1
theorem ScV.blk{w0 W W':World}{s:Sc}{b:ScA}(h:ScV w0 W s b){q:Nat}(hz:W.cell? ⟨q,0,none⟩=some (.slice none 0 0))(hb:∀k,k≠q→W'.heap[k]? = W.heap[k]?):ScV w0 W' s b :=
 ⟨h.siz,h.vl,h.vc,h.sl,h.sc,h.eq,h.va.imp id (fun q=>⟨q.1,q.2.blk hz (fun v hv e=>by obtain ⟨y,_,rfl⟩:=List.mem_map.1 hv;cases e) (by simpa using q.1) hb⟩),h.sa.imp id (fun q=>⟨q.1,q.2.blk hz (fun v hv e=>by obtain ⟨y,_,rfl⟩:=List.mem_map.1 hv;cases e) (by simpa using q.1) hb⟩),h.es.blk hz hb⟩
theorem ScAt.scv{w0 W:World}{s:Sc}{b:ScA}(h:ScAt w0 s b){es:List (ByteArray × En)}{mp:Option Nat}(hg:GSc w0 W es mp):ScV w0 W ⟨s.vs,s.ss,es⟩ ⟨b.va,b.vc,b.sa,b.sc,mp⟩ :=
 ⟨h.vs.siz,h.vs.len,h.vs.cap,h.sl,h.sc,h.eq,.inl h.vs.la,.inl h.ss,hg⟩
theorem ScAt.scw{w0 w W:World}{s:Sc}{b:ScA}(h:ScAt w0 s b)(hw:w0.heap.size≤w.heap.size){es:List (ByteArray × En)}{mp:Option Nat}(hg:GSc w0 W es mp){n:ByteArray}{z:Int}(hn:n.size≤9223372036854775807){va sa:OAd}{vc sc:Nat}(h1:RowN w W ((s.vs++[n]).map Value.string) va vc)(h2:RowN w W ((s.ss++[z]).map (Value.int .i64)) sa sc):ScV w0 W ⟨s.vs++[n],s.ss++[z],es⟩ ⟨va,vc,sa,sc,mp⟩ :=
 ⟨fun l hl=>by rcases List.mem_append.1 hl with q|q;exact h.vs.siz l q;rw [List.mem_singleton.1 q];exact hn,by have:=h1.len;simpa using this,h1.cap,by have:=h2.len;simpa using this,h2.cap,by have:=h.eq;simp [this],.inr ⟨by simp,h1.older hw⟩,.inr ⟨by simp,h2.older hw⟩,hg⟩
theorem here_ok{W:World}{x:En}{ag:OAd}(h:EnAt W x ag):okN (hereE x):=h.gn.at_ h.k
theorem labs_len{n:Nd}(h:okN n):n.labs.length≤1000:=by
 rcases okN_cases h with ⟨_,_,q,_⟩|⟨_,_,q,_⟩|⟨_,_,q,_⟩|⟨_,_,q,e⟩
 ·rw [q];simp
 ·rw [q];simp
 ·rw [q];simp
 ·rw [← e];exact to_le h
theorem behD_any{W0:World}(h0:Tabs W0)(p:Pr)(a:PrA)(s:Sc)(b:ScA)(x:En)(ag:OAd)(cg:Nat)(w0 w:World)(h:ScAt w0 s b)(hw:Below w0.heap.size w0 w)(hx:EnAt w0 x ag)(hK:(hereE x).kind=dnBy p.kind)(hk:2≤p.kind∧p.kind≤8∧p.kind≠7)(hp:PrB w0 w0.heap.size p a)(hT:AT W0 w0)(hl:s.vs.length≤1000):
  Calls Tryz.prog 73 #[prVal p a,scVal s b,enVal x ag cg] w fun e w'=>(∃b',e = .returned (.tuple #[scVal (behD p s x).1 b',.int .i64 (behD p s x).2])∧ScV w0 w' (behD p s x).1 b')∧Below w.heap.size w w':=by
 have hok:=here_ok hx;have hbw:∀W,Below w.heap.size w W→Below w0.heap.size w0 W:=fun W hW=>hw.trans (hW.mono hw.size)
 have hch:p.chan.size≤maxLen:=hp.chan;have hnm:p.name.size≤maxLen:=hp.name;rcases (by omega:p.kind=2∨p.kind=3∨p.kind=4∨p.kind=5∨p.kind=6∨p.kind=8) with e|e|e|e|e|e
 ·have hd:behD p s x=(s.we p.chan (toE x 0),wntS s p.ex (hereE x).so):=by unfold behD;rw [if_pos e]
  rw [hd];rw [e]at hK;have ht:(hereE x).to.length=1:=by rcases okN_cases hok with q|q|q|q <;> first|exact q.2.2.2|(exfalso;have q1:=q.1;rw [hK]at q1;revert q1;decide)
  refine (behindDoing2 h0 p a s b x ag cg w0 w e h hw hx (by omega) hch hp.exb hp.exk hT hl).mono ?_
  rintro _ w' ⟨⟨mp',rfl,hg⟩,hb⟩;exact ⟨⟨_,rfl,h.scv hg⟩,hb⟩
 ·have hd:behD p s x=((s.we p.chan (toE x 0)).wv p.name (hereE x).so,0):=by unfold behD;rw [if_neg (by omega),if_pos e]
  rw [hd];rw [e]at hK;have ht:(hereE x).to.length=1:=by rcases okN_cases hok with q|q|q|q <;> first|exact q.2.2.2|(exfalso;have q1:=q.1;rw [hK]at q1;revert q1;decide)
  refine (behindDoing3 p a s b x ag cg w0 w e h hw hx (by omega) hch hl).mono ?_
  rintro _ w' ⟨⟨va',vc',sa',sc',mp',rfl,hg,h1,h2⟩,hb⟩;exact ⟨⟨_,rfl,h.scw hw.size hg hp.name h1 h2⟩,hb⟩
 ·rw [e]at hK
  have ht:(hereE x).to.length=2:=by rcases okN_cases hok with q|q|q|q <;> first|exact q.2.2.2|(exfalso;have q1:=q.1;rw [hK]at q1;revert q1;decide)
  by_cases hn:p.name=p.chan
  ·have hd:behD p s x=(s,4):=by unfold behD;rw [if_neg (by omega),if_neg (by omega),if_pos e,if_pos hn]
   rw [hd];refine (behindDoing4 p a s s b x ag cg 4 w0 w e (fun W hW=>(behindGiveSame_any p a s b x ag cg W hn).mono ?_)).mono ?_
   ·rintro _ w' ⟨rfl,hb⟩
    exact ⟨⟨b.mp,rfl,h.gs (hbw _ (hW.trans (hb.mono hW.size)))⟩,hb⟩
   ·rintro _ w' ⟨⟨mp',rfl,hg⟩,hb⟩
    exact ⟨⟨_,rfl,h.scv hg⟩,hb⟩
  ·cases hg:getE s.es p.name with
   | none =>
    have hd:behD p s x=(s,4):=by unfold behD;rw [if_neg (by omega),if_neg (by omega),if_pos e,if_neg hn,hg]
    rw [hd];refine (behindDoing4 p a s s b x ag cg 4 w0 w e (fun W hW=>(behindGiveNo_any p a s b x ag cg W (h.keep (hbw W hW)) hnm hn hg).mono ?_)).mono ?_
    ·rintro _ w' ⟨rfl,hb⟩
     exact ⟨⟨b.mp,rfl,h.gs (hbw _ (hW.trans (hb.mono hW.size)))⟩,hb⟩
    ·rintro _ w' ⟨⟨mp',rfl,hg⟩,hb⟩
     exact ⟨⟨_,rfl,h.scv hg⟩,hb⟩
   | some y =>
    have hd:behD p s x=((s.wo p.name).we p.chan (toE x 1),fitE y (toE x 0)):=by unfold behD;rw [if_neg (by omega),if_neg (by omega),if_pos e,if_neg hn,hg]
    rw [hd];refine (behindDoing4 p a s ((s.wo p.name).we p.chan (toE x 1)) b x ag cg (fitE y (toE x 0)) w0 w e (fun W hW=>(behindGiveYes_any p a s b x y ag cg w0 W h (hbw W hW) hx ht hch hnm hn hg).mono ?_)).mono ?_
    ·rintro _ w' ⟨⟨mp',rfl,hg⟩,hb⟩
     exact ⟨⟨mp',rfl,hg.gs⟩,hb⟩
    ·rintro _ w' ⟨⟨mp',rfl,hg⟩,hb⟩
     exact ⟨⟨_,rfl,h.scv hg⟩,hb⟩
 ·rw [e]at hK
  have ht:(hereE x).to.length=2:=by rcases okN_cases hok with q|q|q|q <;> first|exact q.2.2.2|(exfalso;have q1:=q.1;rw [hK]at q1;revert q1;decide)
  cases hg:(getE s.es p.name).isSome with
  | true =>
   have hd:behD p s x=(s,4):=by unfold behD;rw [if_neg (by omega),if_neg (by omega),if_neg (by omega),if_pos e,if_pos hg]
   rw [hd];refine (behindDoing5 p a s s b x ag cg 4 w0 w e (fun W hW=>(behindTakeNo_any p a s b x ag cg W (h.keep (hbw W hW)) hnm hg).mono ?_)).mono ?_
   ·rintro _ w' ⟨rfl,hb⟩
    exact ⟨⟨b.mp,rfl,h.gs (hbw _ (hW.trans (hb.mono hW.size)))⟩,hb⟩
   ·rintro _ w' ⟨⟨mp',rfl,hg⟩,hb⟩
    exact ⟨⟨_,rfl,h.scv hg⟩,hb⟩
  | false =>
   have hd:behD p s x=((s.we p.chan (toE x 1)).we p.name (toE x 0),0):=by unfold behD;rw [if_neg (by omega),if_neg (by omega),if_neg (by omega),if_pos e,if_neg (by rw [hg];simp)]
   rw [hd];refine (behindDoing5 p a s ((s.we p.chan (toE x 1)).we p.name (toE x 0)) b x ag cg 0 w0 w e (fun W hW=>(behindTakeYes_any p a s b x ag cg w0 W h (hbw W hW) hx ht hch hnm hg).mono ?_)).mono ?_
   ·rintro _ w' ⟨⟨mp',rfl,hg⟩,hb⟩
    exact ⟨⟨mp',rfl,hg.gs⟩,hb⟩
   ·rintro _ w' ⟨⟨mp',rfl,hg⟩,hb⟩
    exact ⟨⟨_,rfl,h.scv hg⟩,hb⟩
 ·rw [e]at hK
  have ht:(hereE x).to.length=(hereE x).labs.length:=by rcases okN_cases hok with q|q|q|q <;> first|exact q.2.2.2|(exfalso;have q1:=q.1;rw [hK]at q1;revert q1;decide)
  cases hN:hasN (hereE x).labs p.label with
  | false =>
   have hd:behD p s x=(s,7):=by unfold behD;rw [if_neg (by omega),if_neg (by omega),if_neg (by omega),if_neg (by omega),if_pos e,if_neg (by rw [hN];simp)]
   rw [hd];refine (behindDoing6No p a s b x ag cg w0 w e hw hx (labs_len hok) hN).mono ?_;rintro _ w' ⟨rfl,hb⟩;exact ⟨⟨_,rfl,h.scv (h.gs (hbw _ hb))⟩,hb⟩
  | true =>
   have hd:behD p s x=(s.we p.chan (toE x (idxB (hereE x).labs p.label)),0):=by unfold behD;rw [if_neg (by omega),if_neg (by omega),if_neg (by omega),if_neg (by omega),if_pos e,if_pos hN]
   rw [hd];refine (behindDoing6Yes p a s b x ag cg w0 w e h hw hx (labs_len hok) ht hch hN).mono ?_;rintro _ w' ⟨⟨mp',rfl,hg⟩,hb⟩;exact ⟨⟨_,rfl,h.scv hg⟩,hb⟩
 ·have hd:behD p s x=(s.wo p.chan,0):=by unfold behD;rw [if_neg (by omega),if_neg (by omega),if_neg (by omega),if_neg (by omega),if_neg (by omega)]
  rw [hd];refine (behindDoing8 p a s b x ag cg w0 w e h hw hch).mono ?_;rintro _ w' ⟨⟨mp',rfl,hg⟩,hb⟩;exact ⟨⟨_,rfl,h.scv hg⟩,hb⟩
theorem behP_any{W0:World}(h0:Tabs W0)(p:Pr)(a:PrA)(s:Sc)(b:ScA)(w0 w:World)(h:ScAt w0 s b)(hw:Below w0.heap.size w0 w)(hk:(2≤p.kind∧p.kind≤8∧p.kind≠7)∨p.kind=11∨p.kind=12)(hp:PrB w0 w0.heap.size p a)(hT:AT W0 w0)(hl:s.vs.length≤1000):
  Calls Tryz.prog 44 #[prVal p a,scVal s b] w fun e w'=>(∃b',e = .returned (.tuple #[scVal (behP p s).1 b',.int .i64 (behP p s).2])∧ScV w0 w' (behP p s).1 b')∧Below w.heap.size w w':=by
 have hbw:∀W,Below w.heap.size w W→Below w0.heap.size w0 W:=fun W hW=>hw.trans (hW.mono hw.size)
 have hch:p.chan.size≤maxLen:=hp.chan;rcases hk with hk|e|e
 ·cases hg:getE s.es p.chan with
  | none =>
   have hd:behP p s=(s,4):=by unfold behP;rw [if_neg (by omega),if_neg (by omega),hg]
   rw [hd];refine (behindBad p a s b 4 w (by omega) (by decide) (fun W hW=>usedNo_any p a s b w0 W h (hbw W hW) hch hg)).mono ?_
   rintro _ w' ⟨rfl,hb⟩;exact ⟨⟨_,rfl,h.scv (h.gs (hbw _ hb))⟩,hb⟩
  | some x =>
   by_cases hkx:(hereE x).kind=dnBy p.kind
   ·have hd:behP p s=behD p s x:=by unfold behP;rw [if_neg (by omega),if_neg (by omega),hg];simp [hkx]
    rw [hd];refine behindGood p a s (behD p s x).1 b x (behD p s x).2 w0 w (fun b' W=>ScV w0 W (behD p s x).1 b') (by omega) (fun b' W W' q hz _ hb hΦ => hΦ.blk hz hb) (fun W hW=>(usedYes_any p a s b x w0 W h (hbw W hW) hch hg).mono ?_) (fun ag cg hx W hW=>behD_any h0 p a s b x ag cg w0 W h (hbw W hW) hx hkx hk hp hT hl)
    rintro e w' ⟨⟨ag,cg,hx,q⟩,hb⟩;rcases q with q|q
    ·exact absurd hkx q.1
    ·exact ⟨⟨ag,cg,hx,q.2⟩,hb⟩
   ·have hd:behP p s=(s,7):=by unfold behP;rw [if_neg (by omega),if_neg (by omega),hg];simp [hkx]
    rw [hd];refine (behindBad p a s b 7 w (by omega) (by decide) (fun W hW=>(usedYes_any p a s b x w0 W h (hbw W hW) hch hg).mono ?_)).mono ?_
    ·rintro e w' ⟨⟨ag,cg,hx,q⟩,hb⟩
     rcases q with q|q
     ·exact ⟨q.2,hb⟩
     ·exact absurd q.1 hkx
    ·rintro _ w' ⟨rfl,hb⟩
     exact ⟨⟨_,rfl,h.scv (h.gs (hbw _ hb))⟩,hb⟩
 ·have hd:behP p s=(s.wv p.name (srtR p.ex s.vs s.ss).1,(srtR p.ex s.vs s.ss).2):=by unfold behP;rw [if_pos e]
  rw [hd];refine (behind11 h0 p a s b w0 w e h hw hp.exb hp.exk hT hl).mono ?_;rintro _ w' ⟨⟨va',vc',sa',sc',rfl,h1,h2⟩,hb⟩;exact ⟨⟨_,rfl,h.scw hw.size (h.gs (hbw _ hb)) hp.name h1 h2⟩,hb⟩
 ·have hd:behP p s=(s,(srtR p.ex s.vs s.ss).2):=by unfold behP;rw [if_neg (by omega),if_pos e]
  rw [hd];refine (behind12 h0 p a s b w0 w e h hw hp.exb hp.exk hT hl).mono ?_;rintro _ w' ⟨rfl,hb⟩;exact ⟨⟨_,rfl,h.scv (h.gs (hbw _ hb))⟩,hb⟩
structure PSB(w:World)(p:Pr)(a:PrA)(s:Sc)(b:ScA)(W:World):Prop where
 bl:Below w.heap.size w W
 lt:w.heap.size+1<W.heap.size
 at0:PrAt W w.heap.size 0 p a
 c0:W.cell? ⟨w.heap.size+1,0,none⟩=some (.slice b.va s.vs.length b.vc)
 c1:W.cell? ⟨w.heap.size+1,1,none⟩=some (.slice b.sa s.ss.length b.sc)
 c2:W.cell? ⟨w.heap.size+1,2,none⟩=some (.map b.mp)
 f:∀o,W.frozen? ⟨w.heap.size+1,o,none⟩=false
theorem PSB.keep2{w:World}{p:Pr}{a:PrA}{s:Sc}{b:ScA}{W W':World}(h:PSB w p a s b W)(hb:Below (w.heap.size+1+1) W W'):PSB w p a s b W':=by
 have hs:=hb.size;have hl:=h.lt;have c:∀b o,b<w.heap.size+1+1→W'.cell? ⟨b,o,none⟩=W.cell? ⟨b,o,none⟩:=fun b o q=>hb.cell (p:=⟨b,o,none⟩) q
 exact ⟨h.bl.trans (hb.mono (by omega)),by omega,h.at0.keep hb (by omega),(c _ _ (by omega)).trans h.c0,(c _ _ (by omega)).trans h.c1,(c _ _ (by omega)).trans h.c2,fun o=>(hb.frozen (p:=⟨w.heap.size+1,o,none⟩) (by show w.heap.size+1<_;omega)).trans (h.f o)⟩
theorem PSB.keep{w:World}{p:Pr}{a:PrA}{s:Sc}{b:ScA}{W W':World}(h:PSB w p a s b W)(hb:Below W.heap.size W W'):PSB w p a s b W':=h.keep2 (hb.mono (by have:=h.lt;omega))
theorem PSB.new(w:World)(p:Pr)(a:PrA)(s:Sc)(b:ScA):PSB w p a s b ((w.alloc (.cells (pK p a) 40)).alloc (.cells #[.slice b.va s.vs.length b.vc,.slice b.sa s.ss.length b.sc,.map b.mp] 70)) :=
 ⟨((bR _ _).alloc (nR _) _).alloc (by simp) _,by simp,PrAt.keep (B:=(w.alloc (prBx p a)).heap.size) (prBx_at w p a) ((Below.refl _ (w.alloc (prBx p a))).alloc (nR _) _) (by simp),by go_cell,by go_cell,by go_cell,fun o=>by go_simp⟩
def PSaid(hm:Option Nat)(w0:World)(p:Pr)(a:PrA)(L:Nat)(f:Sc→Int):Prop:=∀s b w,Below w0.heap.size w0 w→ScAt w s b→s.vs.length≤L→Calls Tryz.prog 24 #[.map hm,prVal p a,scVal s b] w fun e w'=>e = .returned (.int .i64 (f s))∧Below w.heap.size w w'
def KSaid(hm:Option Nat)(w0:World)(p:Pr)(a:PrA)(L:Nat)(fs:List (Sc→Int)):Prop:=∀k (h:k<p.kids.length),∃b o a',a.ka=some ⟨b,o,none⟩∧b<w0.heap.size∧PrAt w0 b (o+k*19) p.kids[k] a'∧PSaid hm w0 p.kids[k] a' L (fs.getD k fun _=>0)
theorem fork_any{W0:World}(h0:Tabs W0)(hm:Option Nat)(p:Pr)(a:PrA)(w0:World)(L:Nat)(fs:List (Sc→Int))(hkl:p.kids.length=2)(hp:PrB w0 w0.heap.size p a)(hT:AT W0 w0)(hks:KSaid hm w0 p a L fs)(s:Sc)(b:ScA)(w:World)(hw:Below w0.heap.size w0 w)(h:ScAt w s b)(hl:s.vs.length≤L)(hL:L≤1000):
  Calls Tryz.prog 42 #[.map hm,prVal p a,scVal s b] w fun e w'=>e = .returned (.int .i64 (if wntS s p.ex 2≠0 then wntS s p.ex 2 else if (fs.getD 0 fun _=>0) s≠0 then (fs.getD 0 fun _=>0) s else (fs.getD 1 fun _=>0) s))∧Below w.heap.size w w':=by
 have H2:=hideK (PSB.new w p a s b);have hbw:∀W,Below w.heap.size w W→Below w0.heap.size w0 W:=fun W hW=>hw.trans (hW.mono hw.size)
 have c:=wantSort_any h0 s b p.ex a.ea a.ec 2 ((w.alloc (.cells (pK p a) 40)).alloc (.cells #[.slice b.va s.vs.length b.vc,.slice b.sa s.ss.length b.sc,.map b.mp] 70)) (h.keep H2.out.bl) hp.exb (hp.exk.imp fun _ q=>KA.mono (hbw _ H2.out.bl).size (KA.keep (hbw _ H2.out.bl) q)) (at_k _ _ hT (hbw _ H2.out.bl)) (by omega)
 generalize wntS s p.ex 2=r at *;have HK:=hideK (fun (k:Nat) (hk:k<p.kids.length)=>hks k hk)
 have HS:=hideK (fun (W:World) (hW:Below w.heap.size w W)=>And.intro (hbw W hW) (h.keep hW))
 have HKL:=hideK hkl;have hkz:(p.kids.length:Int)≤1000:=by omega
 have HR:(r≠0∧(r != 0)=true)∨(r=0∧(r != 0)=false):=by by_cases q:r=0;exact .inr ⟨q,by simp [q]⟩;exact .inl ⟨q,by simpa using q⟩
 simp only [scVal,prVal,exVal]at H2 c ⊢;clear h hw hp hT hks hbw hkl;rcases HR with ⟨hr,hrb⟩|⟨hr,hrb⟩
 ·rw [if_pos hr]
  clear hr;go_enter Tryz.func42,Tryz.ntmps42
  go_wp2_with fail
  refine c.mono ?_;rintro e w5 ⟨rfl,hb5⟩;have H5:=hideK (H2.out.keep hb5);clear c hb5 H2 HK HS;go_wp2_with fail
  go_ret
  exact ⟨rfl,H5.out.bl⟩
 ·rw [if_neg (by simpa using hr)]
  clear hr;obtain ⟨res,hres⟩:∃q,q=(if (fs.getD 0 fun _=>0) s≠0 then (fs.getD 0 fun _=>0) s else (fs.getD 1 fun _=>0) s):=⟨_,rfl⟩
  rw [← hres];have HRS:=hideK hres;clear hres;go_enter Tryz.func42,Tryz.ntmps42
  go_wp2_with fail
  refine c.mono ?_;rintro e w5 ⟨rfl,hb5⟩;have H5:=hideK (H2.out.keep hb5);clear c hb5 H2;have x18:=H5.out.at0.get (j:=18) (v:=.slice a.ka p.kids.length a.kc) (by omega) rfl
  go_wp2_with fail
  go_loopw [21] (fun i wr=>∃k:Nat,k≤2∧i = .int .i64 (k:Int)∧(∀j,j<k→(fs.getD j fun _=>0) s=0)∧PSB w p a s b wr) (fun i _=>2 - (intOf i).toNat)
  case atStart=>exact ⟨0,Nat.zero_le _,rfl,(fun j hj=>absurd hj (Nat.not_lt_zero _)),H5.out⟩
  case round =>
   obtain ⟨k,hk,rfl,hz,hW⟩:=hrel;clear x18 H5;by_cases hltk:k<2
   ·have hltz:(k:Int)<(p.kids.length:Int):=by have:=HKL.out;omega
    obtain ⟨kb,ko,a',ha,hbB,hat,hsd⟩:=HK.out k (by have:=HKL.out;omega)
    have HW:=hideK hW;have hWs:=HS.out wr hW.bl;have HAT:=hideK (hat.keep hWs.1 hbB);have hA:Below wr.heap.size wr (wr.alloc (prBx p.kids[k] a')):=(bR _ _).alloc (nR _) _;have H6:=hideK (hW.keep hA);have hs6:=HS.out _ H6.out.bl;have cR:=hsd s b _ hs6.1 hs6.2 hl;have HRES:(fs.getD k fun _=>0) s=(fs.getD k fun _=>0) s:=rfl
    generalize p.kids[k]=x at *;have HZ:=hideK hz;generalize hfk:(fs.getD k fun _=>0) s=rk at cR
    have HFK:=hideK hfk;simp only [scVal,prVal]at cR;rw [ha];have HKK:=hideK (show k<2 from hltk)
    clear hz hat hsd hA hW hWs hs6 HRES hfk HK HS ha;go_upto_region 6 with fail
    refine wp_region_lit ?_;refine wpList_plain rfl (fun K hK=>?_)
    go_simp
    refine hK _ _ ?_;clear hK K;refine wpList_loadW rfl rfl rfl (load_pr HAT.out) ?_;simp only [prVal,Act.put,List.setIfInBounds_toArray,List.set_cons_zero,List.set_cons_succ];refine wpList_allocW rfl rfl (alloc_pr _) ?_;simp only [Act.put,sA,sB,sC];refine wpList_storeW rfl rfl rfl rfl (store_pr _ x a') ?_;simp only [Act.put];go_upto_region 7 with fail
    have HA:=hideK (prBx_at wr x a');generalize wr.alloc (prBx x a')=W6 at *;generalize wr.heap.size=nb at *;have c0:=H6.out.c0;have c1:=H6.out.c1;have c2:=H6.out.c2;refine wp_region_lit ?_;refine wpList_plain rfl (fun K hK=>?_)
    go_simp
    refine hK _ _ ?_;clear hK K;refine wpList_loadW rfl rfl rfl (load_pr HA.out) ?_;simp only [prVal,Act.put,List.setIfInBounds_toArray,List.set_cons_zero,List.set_cons_succ];go_wp2_with fail
    refine cR.mono ?_;rintro e w7 ⟨rfl,hb7⟩;have H7:=hideK (H6.out.keep hb7);clear cR hb7 H6 HA HAT HW c0 c1 c2;by_cases hr:rk=0
    ·have hrb2:(rk != 0)=false:=by simpa using hr
     have HR:=hideK hr;clear hr;go_wp2_with fail
     go_roundw
     case rel=>exact ⟨k+1,by have:=HKK.out;omega,by go_num,fun j hj=>by
      by_cases q:j=k
      ·subst q;rw [HFK.out];exact HR.out
      ·exact HZ.out j (by omega),H7.out⟩
     case measure=>simp [intOf];omega
    ·have hrb2:(rk != 0)=true:=by simpa using hr
     have HR:=hideK hr;clear hr;go_wp2_with fail
     go_ret
     have hfin:res=rk:=by
      rw [HRS.out];rcases (by have:=HKK.out;omega:k=0∨k=1) with rfl|rfl
      ·rw [HFK.out,if_pos HR.out]
      ·rw [if_neg (by rw [HZ.out 0 (by omega)];simp),HFK.out]
     rw [hfin];exact ⟨rfl,H7.out.bl⟩
   ·have hltz:¬(k:Int)<(p.kids.length:Int):=by have:=HKL.out;omega
    have hk2:k=2:=by omega
    subst hk2;have HZ:=hideK hz;have HW:=hideK hW;clear hz hW hltk HK HS;go_wp2_with fail
    go_ret
    have hfin:res=0:=by rw [HRS.out,HZ.out 0 (by omega),HZ.out 1 (by omega)];rfl
    rw [hfin];exact ⟨rfl,HW.out.bl⟩
structure PSX(w:World)(p:Pr)(a:PrA)(s:Sc)(b:ScA)(xb:Nat)(x:En)(ag:OAd)(cg:Nat)(W:World):Prop where
 ps:PSB w p a s b W
 lt:xb<W.heap.size
 e0:W.cell? ⟨xb,0,none⟩=some (.slice ag x.g.length cg)
 e1:W.cell? ⟨xb,1,none⟩=some (.int .i64 (x.k:Int))
theorem PSX.keep{w:World}{p:Pr}{a:PrA}{s:Sc}{b:ScA}{xb:Nat}{x:En}{ag:OAd}{cg:Nat}{W W':World}(h:PSX w p a s b xb x ag cg W)(hb:Below W.heap.size W W'):PSX w p a s b xb x ag cg W' :=
 ⟨h.ps.keep hb,nL h.lt hb.size,(hb.cell (p:=⟨xb,0,none⟩) h.lt).trans h.e0,(hb.cell (p:=⟨xb,1,none⟩) h.lt).trans h.e1⟩
theorem PSX.of{w:World}{p:Pr}{a:PrA}{s:Sc}{b:ScA}{W:World}(h:PSB w p a s b W)(x:En)(ag:OAd)(cg:Nat):PSX w p a s b W.heap.size x ag cg (W.alloc (.cells #[.slice ag x.g.length cg,.int .i64 (x.k:Int)] 90)) :=
 ⟨h.keep ((bR _ _).alloc (nR _) _),by simp,by go_cell,by go_cell⟩
theorem PSB.k1{w:World}{p:Pr}{a:PrA}{s:Sc}{b:ScA}{W:World}(h:PSB w p a s b W):W.cell? ⟨w.heap.size,1,none⟩=some (.string p.chan):=h.at0.get (j:=1) (by omega) rfl
theorem PSB.k18{w:World}{p:Pr}{a:PrA}{s:Sc}{b:ScA}{W:World}(h:PSB w p a s b W):W.cell? ⟨w.heap.size,18,none⟩=some (.slice a.ka p.kids.length a.kc):=h.at0.get (j:=18) (by omega) rfl
theorem PSB.k17{w:World}{p:Pr}{a:PrA}{s:Sc}{b:ScA}{W:World}(h:PSB w p a s b W):W.cell? ⟨w.heap.size,17,none⟩=some (.slice a.la p.labels.length a.lc):=h.at0.get (j:=17) (by omega) rfl
theorem casesBad(hm:Option Nat)(p:Pr)(a:PrA)(s:Sc)(b:ScA)(r:Int)(w:World)(hr:r≠0)
  (c:∀W,Below w.heap.size w W→Calls Tryz.prog 62 #[prVal p a,scVal s b] W fun e w'=>e = .returned (.tuple #[.agg #[.slice none 0 0,.int .i64 0],.int .i64 r])∧Below W.heap.size W w') :
  Calls Tryz.prog 40 #[.map hm,prVal p a,scVal s b] w fun e w'=>e = .returned (.int .i64 r)∧Below w.heap.size w w':=by
 have H2:=hideK (PSB.new w p a s b);have CC:=hideK (c ((w.alloc (.cells (pK p a) 40)).alloc (.cells #[.slice b.va s.vs.length b.vc,.slice b.sa s.ss.length b.sc,.map b.mp] 70)) H2.out.bl);have hr0:(r != 0)=true:=by simpa using hr
 simp only [scVal,prVal]at H2 CC ⊢;clear c hr;go_enter Tryz.func40,Tryz.ntmps40
 go_upto_region 1 with fail
 generalize (w.alloc (.cells (pK p a) 40)).alloc (.cells #[.slice b.va s.vs.length b.vc,.slice b.sa s.ss.length b.sc,.map b.mp] 70)=V at *;refine wp_region_lit ?_;refine wpList_loadW rfl rfl rfl (load_pr H2.out.at0) ?_;simp only [prVal,Act.put,List.setIfInBounds_toArray,List.set_cons_zero,List.set_cons_succ];have c0:=H2.out.c0;have c1:=H2.out.c1;have c2:=H2.out.c2;go_wp2_with fail
 refine CC.out.mono ?_;rintro e w5 ⟨rfl,hb5⟩;have HB:=hideK ((H2.out.keep hb5).bl.alloc (by have:=(H2.out.keep hb5).bl.size;omega) (.cells #[.slice none 0 0,.int .i64 0] 90))
 clear CC hb5 H2 c0 c1 c2;go_wp2_with fail
 go_ret
 exact ⟨rfl,HB.out⟩
theorem casesGood(hm:Option Nat)(p:Pr)(a:PrA)(w0:World)(L:Nat)(fs:List (Sc→Int))(hkl:p.kids.length=p.labels.length)(hlz:p.labels.length≤1000)(hp:PrB w0 w0.heap.size p a)(hks:KSaid hm w0 p a L fs)(s:Sc)(b:ScA)(x:En)(w:World)(hw:Below w0.heap.size w0 w)(h:ScAt w s b)(hl:s.vs.length≤L)
  (hlab:(hereE x).to.length=(hereE x).labs.length) (hnl:(hereE x).labs.length≤1000)
  (c:∀W,Below w.heap.size w W→Calls Tryz.prog 62 #[prVal p a,scVal s b] W fun e w'=>(∃ag cg,EnAt w x ag∧e = .returned (.tuple #[enVal x ag cg,.int .i64 0]))∧Below W.heap.size W w') :
  Calls Tryz.prog 40 #[.map hm,prVal p a,scVal s b] w fun e w'=>e = .returned (.int .i64 (csG p fs s x (hereE x).labs 0))∧Below w.heap.size w w':=by
 have H2:=hideK (PSB.new w p a s b);have CC:=hideK (c ((w.alloc (.cells (pK p a) 40)).alloc (.cells #[.slice b.va s.vs.length b.vc,.slice b.sa s.ss.length b.sc,.map b.mp] 70)) H2.out.bl);have hbw:∀W,Below w.heap.size w W→Below w0.heap.size w0 W:=fun W hW=>hw.trans (hW.mono hw.size)
 have HK:=hideK hks;have HL:=hideK (And.intro hl (And.intro hkl hlz));have HS:=hideK h;have HBW:=hideK hbw;have HM:=hideK (show p.chan.size≤maxLen from hp.chan)
 have HLB:=hideK hp.lbs;obtain ⟨res,hres⟩:∃q,q=csG p fs s x (hereE x).labs 0:=⟨_,rfl⟩;rw [← hres];have HRS:=hideK hres;simp only [scVal,prVal,enVal]at H2 CC ⊢;clear c h hl hkl hlz hks hbw hp hres;go_enter Tryz.func40,Tryz.ntmps40
 go_upto_region 1 with fail
 generalize (w.alloc (.cells (pK p a) 40)).alloc (.cells #[.slice b.va s.vs.length b.vc,.slice b.sa s.ss.length b.sc,.map b.mp] 70)=V at *;refine wp_region_lit ?_;refine wpList_loadW rfl rfl rfl (load_pr H2.out.at0) ?_;simp only [prVal,Act.put,List.setIfInBounds_toArray,List.set_cons_zero,List.set_cons_succ];have c0:=H2.out.c0;have c1:=H2.out.c1;have c2:=H2.out.c2;go_wp2_with fail
 refine CC.out.mono ?_;rintro e w5 ⟨⟨ag,cg,hx,rfl⟩,hb5⟩;have H6:=hideK (PSX.of (H2.out.keep hb5) x ag cg);have HX:=hideK hx;obtain ⟨al,cl,at1,ct,hla,_,hH⟩:=enHere_ex x ag cg w hx;have HH:=hideK hH;have HLA:=hideK hla;have hto:=fun (k:Nat) (hk:k<(hereE x).labs.length) (W:World) (hW:Below w.heap.size w W)=>And.intro (enTo_any x ag cg k W (hx.keep hW) (by omega)) (hx.to (j:=k) (by omega))
 have HT:=hideK hto;clear CC hb5 H2 c0 c1 c2 hx hH hla hto hlab;generalize hereE x=nd at *;simp only [enVal,ndVal]at HH HT;go_upto_region 4 with fail
 generalize hxb:w5.heap.size=xb at *;generalize w5.alloc (.cells #[.slice ag x.g.length cg,.int .i64 (x.k:Int)] 90)=V6 at *;clear hxb;have c:=HH.out V6 H6.out.ps.bl;have e0:=H6.out.e0;have e1:=H6.out.e1;go_wp2_with fail
 refine c.mono ?_;rintro e w7 ⟨rfl,hb7⟩;have H7:=hideK (H6.out.keep hb7);have hfl:(Instr.field 102 (.agg #[.int .i64 nd.kind,.int .i64 nd.so,.slice al nd.labs.length cl,.slice at1 nd.to.length ct]) 2).run Tryz.prog w7 = .ok (.slice al nd.labs.length cl) w7:=by kernel_rfl
 clear c hb7 H6 e0 e1 HH;have hnz:(nd.labs.length:Int)≤1000:=by omega
 go_wp2_with fail
 go_loopw [26] (fun i wr=>∃k:Nat,k≤nd.labs.length∧i = .int .i64 (k:Int)∧res=csG p fs s x (nd.labs.drop k) k∧PSX w p a s b xb x ag cg wr) (fun i _=>nd.labs.length - (intOf i).toNat)
 case atStart=>exact ⟨0,Nat.zero_le _,rfl,HRS.out,H7.out⟩
 case round =>
  obtain ⟨k,hk,rfl,hz,hW⟩:=hrel;clear hfl H7;by_cases hltk:k<nd.labs.length
  ·have hltz:(k:Int)<(nd.labs.length:Int):=by omega
   rw [List.drop_eq_getElem_cons hltk,csG]at hz;obtain ⟨lb,lo,rfl,hlb,hcl⟩:=HLA.out.resolve_left (fun q=>by rw [List.map_eq_nil_iff]at q;rw [q]at hltk;simp at hltk)
   have d0:=hcl k (by simpa using hltk)
   rw [List.getElem_map,← hW.ps.bl.cell (p:=⟨lb,lo+k,none⟩) hlb]at d0;have ci:=index_any p.labels nd.labs[k] a.la a.lc w0.heap.size wr (NAt.keep (HBW.out wr hW.ps.bl) HLB.out.la) HL.out.2.2;have k17:=hW.ps.k17;generalize hy:nd.labs[k]=y at *;clear hcl hlb;cases hN:hasN p.labels y with
   | false =>
    rw [show idxZ p.labels y = -1 from by unfold idxZ;rw [hN];rfl]at ci
    rw [if_neg (by rw [hN];simp)]at hz
    have HZ:=hideK hz;have HW:=hideK hW;clear hz hW HK HT hN;go_wp2_with fail
    refine ci.mono ?_;rintro e w8 ⟨rfl,hw8⟩;subst hw8;go_wp2_with fail
    go_ret
    rw [HZ.out];exact ⟨rfl,HW.out.ps.bl⟩
   | true =>
    rw [show idxZ p.labels y=(idxB p.labels y:Int) from by unfold idxZ;rw [hN];rfl]at ci
    rw [if_pos hN]at hz;have hj:=idxB_lt ((hasN_iff _ _).1 hN);generalize idxB p.labels y=j at *;have hjk:j<p.kids.length:=by rw [HL.out.2.1];exact hj
    obtain ⟨kb,ko,a',ha,hbB,hat,hsd⟩:=HK.out j hjk;have HAT:=hideK (fun (W:World) (hW:PSX w p a s b xb x ag cg W)=>hat.keep (HBW.out W hW.ps.bl) hbB)
    have HK18:=hideK (fun (W:World) (hW:PSX w p a s b xb x ag cg W)=>(show W.cell? ⟨w.heap.size,18,none⟩=some (.slice (some ⟨kb,ko,none⟩) p.kids.length a.kc) from ha ▸ hW.ps.k18))
    have hTk:=HT.out k hltk;have HT1:=hideK (fun W hW=>(hTk W hW).1)
    have hyn:=(hTk w (bR _ _)).2;generalize toE x k=yk at *;have HU:=hideK (fun (W:World) (hW:Below w.heap.size w W)=>withEnd_g s b p.chan yk ag cg w W (HS.out.gs hW) HM.out hyn)
    have HP:=hideK (fun (v:World) (mp:Option Nat) (W:World) (hW:Below w.heap.size w W) (hn:NSc w v (s.we p.chan yk).es mp W)=>hsd (s.we p.chan yk) ⟨b.va,b.vc,b.sa,b.sc,mp⟩ W (HBW.out W hW) (HS.out.new hW hn) HL.out.1)
    generalize s.we p.chan yk=s2 at *;generalize (fs.getD j fun _=>0) s2=rk at *
    generalize p.kids[j]=kx at *;have hjz:(j:Int)<(p.kids.length:Int):=by omega
    have hj1:(j:Int)≤1000:=by have:=HL.out;omega
    have HZ:=hideK hz;have HW:=hideK hW;have HKL:=hideK hltk;simp only [scVal,prVal,enVal]at HT1 HU HP;clear hz hW hN HT hTk hat hsd HK hyn hj hy ha;go_wp2_with fail
    refine ci.mono ?_;rintro e w8 ⟨rfl,hw8⟩;subst hw8;clear ci d0 k17;go_upto_region 10 with fail
    have H8:=hideK (HW.out.keep ((bR _ _).drew));have hS0:(fun W:World=>PSX w p a s b xb x ag cg W) (World.drew w8):=H8.out
    clear HW;refine wp_region_held_drew (S:=(fun W:World=>PSX w p a s b xb x ag cg W)) (by kernel_rfl) hS0 (fun hS=>?_)
    clear hS0;generalize World.drew w8=V8 at *;refine tkZ 0 (.map hm) hS ?_;refine tkZ 1 (.pointer (some ⟨w.heap.size,18,none⟩)) hS ?_;refine tkH 2 (.slice (some ⟨kb,ko,none⟩) p.kids.length a.kc) hS ?_ (hy:=Or.inl ⟨by rfl,fun W hW=>by have k18:=HK18.out W hW;go_simp⟩)
    simp only [Act.put,sA,sB,sC];refine tkZ 3 (.int .i64 (j:Int)) hS ?_;refine tkZ 4 (.pointer (some ⟨kb,ko+j*19,none⟩)) hS ?_;refine tkH 5 (.agg #[.int .i64 kx.kind,.string kx.chan,.string kx.name,.string kx.label,.int .i64 kx.ex.kind,.string kx.ex.name,.int .i64 kx.ex.so,.int .i64 kx.ex.n,.string kx.ex.s,.slice a'.ea kx.ex.kids.length a'.ec,.slice a'.xa kx.exs.length a'.xc,.slice a'.na kx.names.length a'.nc,.int .i64 kx.ty.kind,.int .i64 kx.ty.so,.string kx.ty.name,.slice a'.tl kx.ty.labels.length a'.tlc,.slice a'.tk kx.ty.kids.length a'.tkc,.slice a'.la kx.labels.length a'.lc,.slice a'.ka kx.kids.length a'.kc]) hS ?_ (hy:=Or.inl ⟨by rfl,fun W hW=>by exact exec_load (by rfl) (by rfl) (load_pr (HAT.out W hW))⟩)
    simp only [Act.put,sA,sB,sC];refine tkH 6 (.agg #[.slice b.va s.vs.length b.vc,.slice b.sa s.ss.length b.sc,.map b.mp]) hS ?_ (hy:=Or.inl ⟨by rfl,fun W hW=>by obtain ⟨⟨_,_,_,c0,c1,c2,_⟩,_,e0,e1⟩:=id hW;go_simp⟩)
    simp only [Act.put,sA,sB,sC];refine tkZ 7 (.pointer (some ⟨w.heap.size,1,none⟩)) hS ?_;refine tkH 8 (.string p.chan) hS ?_ (hy:=Or.inl ⟨by rfl,fun W hW=>by have k1:=hW.ps.k1;go_simp⟩)
    simp only [Act.put,sA,sB,sC];refine tkH 9 (.agg #[.slice ag x.g.length cg,.int .i64 (x.k:Int)]) hS ?_ (hy:=Or.inl ⟨by rfl,fun W hW=>by obtain ⟨⟨_,_,_,c0,c1,c2,_⟩,_,e0,e1⟩:=id hW;go_simp⟩)
    simp only [Act.put,sA,sB,sC];refine tkZ 10 (.int .i64 (k:Int)) hS ?_;refine take_oneHL 11 (aC (fun K hK=>?_) aN) (by kernel_rfl)
    go_simp
    refine (HT1.out V8 H8.out.ps.bl).mono ?_;rintro e V9 ⟨rfl,hb8⟩;have H9:=hideK (H8.out.keep hb8);have hSn:(fun W:World=>PSX w p a s b xb x ag cg W) V9:=H9.out
    refine hK.out _ _ hSn ?_;clear hb8 ;clear hS hK K hSn;intro hS;try simp only [Act.put,sA,sB,sC]
    refine take_oneHL 12 (aC (fun K hK=>?_) aN) (by kernel_rfl)
    go_simp
    refine (HU.out V9 H9.out.ps.bl).mono ?_;rintro e V10 ⟨⟨mp2,rfl,hn3⟩,hb9⟩;have H10:=hideK (H9.out.keep hb9);have hSn:(fun W:World=>PSX w p a s b xb x ag cg W) V10:=H10.out
    have HN3:=hideK hn3;refine hK.out _ _ hSn ?_;clear hb9 hn3;clear hS hK K hSn;intro hS;try simp only [Act.put,sA,sB,sC]
    refine take_oneHL 13 (aC (fun K hK=>?_) aN) (by kernel_rfl)
    go_simp
    refine (HP.out V9 mp2 V10 H10.out.ps.bl HN3.out).mono ?_;rintro e V11 ⟨rfl,hb10⟩;have H11:=hideK (H10.out.keep hb10);have hSn:(fun W:World=>PSX w p a s b xb x ag cg W) V11:=H11.out
    refine hK.out _ _ hSn ?_;clear hb10 ;clear hS hK K hSn;intro hS;try simp only [Act.put,sA,sB,sC]
    refine tkZ 14 (.int .i64 rk) hS ?_;refine wpAnyH_done (by kernel_rfl) ?_ _
    clear HT1 HU HP HN3 hS;have hz:=HZ.out;clear HZ;by_cases hr:rk=0
    ·have hrb2:(rk != 0)=false:=by simpa using hr
     rw [if_neg (by simpa using hr)]at hz
     have HZ:=hideK hz;clear hr hz;go_wp2_with fail
     go_roundw
     case rel=>exact ⟨k+1,HKL.out,by go_num,HZ.out,H11.out⟩
     case measure=>simp [intOf];have:=HKL.out;omega
    ·have hrb2:(rk != 0)=true:=by simpa using hr
     rw [if_pos (by simpa using hr)]at hz
     have HZ:=hideK hz;clear hr hz;go_wp2_with fail
     go_ret
     rw [HZ.out];exact ⟨rfl,H11.out.ps.bl⟩
  ·have hltz:¬(k:Int)<(nd.labs.length:Int):=by omega
   rw [List.drop_of_length_le (by omega),csG]at hz
   have HZ:=hideK hz;have HW:=hideK hW;clear hz hW HK HT;go_wp2_with fail
   go_ret
   rw [HZ.out];exact ⟨rfl,HW.out.ps.bl⟩
theorem cases_any(hm:Option Nat)(p:Pr)(a:PrA)(w0:World)(L:Nat)(fs:List (Sc→Int))(hk7:p.kind=7)(hkl:p.kids.length=p.labels.length)(hlz:p.labels.length≤1000)(hp:PrB w0 w0.heap.size p a)(hks:KSaid hm w0 p a L fs)(s:Sc)(b:ScA)(w:World)(hw:Below w0.heap.size w0 w)(h:ScAt w s b)(hl:s.vs.length≤L):
  Calls Tryz.prog 40 #[.map hm,prVal p a,scVal s b] w fun e w'=>e = .returned (.int .i64 (match getE s.es p.chan with
   | none=>4
   | some x=>if (hereE x).kind≠dnBy p.kind then 7 else csG p fs s x (hereE x).labs 0))∧Below w.heap.size w w':=by
 have hch:p.chan.size≤maxLen:=hp.chan;have hd7:dnBy p.kind=7:=by rw [hk7];rfl
 cases hg:getE s.es p.chan with
 | none=>exact casesBad hm p a s b 4 w (by decide) (fun W hW=>usedNo_any p a s b w W h hW hch hg)
 | some x =>
  obtain ⟨ag,cg,hx⟩:∃(ag:OAd) (cg:Nat),EnAt w x ag:=by
   rcases h.es.look hch with ⟨e,_⟩|⟨x',ag,cg,e,hx,_⟩
   ·rw [hg]at e;cases e
   ·rw [hg]at e;cases e;exact ⟨ag,cg,hx⟩
  have hok:=here_ok hx;by_cases hkx:(hereE x).kind=dnBy p.kind
  ·simp only [hkx,ne_eq,not_true_eq_false,if_false]
   have hlab:(hereE x).to.length=(hereE x).labs.length:=by rcases okN_cases hok with q|q|q|q <;> first|exact q.2.2.2|(exfalso;have q1:=q.1;rw [hkx,hd7]at q1;revert q1;decide)
   refine casesGood hm p a w0 L fs hkl hlz hp hks s b x w hw h hl hlab (labs_len hok) (fun W hW=>(usedYes_any p a s b x w W h hW hch hg).mono ?_)
   rintro e w' ⟨⟨ag,cg,hx,q⟩,hb⟩;rcases q with q|q
   ·exact absurd hkx q.1
   ·exact ⟨⟨ag,cg,hx,q.2⟩,hb⟩
  ·simp only [ne_eq,hkx,not_false_eq_true,if_true]
   refine casesBad hm p a s b 7 w (by decide) (fun W hW=>(usedYes_any p a s b x w W h hW hch hg).mono ?_)
   rintro e w' ⟨⟨ag,cg,hx,q⟩,hb⟩;rcases q with q|q
   ·exact ⟨q.2,hb⟩
   ·exact absurd q.1 hkx
end Go.Proofs.YtmamabhhgfcjcaaGreatDoor
