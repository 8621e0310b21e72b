import Derived.Test.YtlefjidbpjkhlaaGreatK23
set_option maxRecDepth 100000
set_option maxHeartbeats 16000000
namespace Go.Proofs.YtlefjidbpjkhlaaGreat
variable {ps:List Pm}
variable {B K bl c j k n p q y:Nat}
variable {X Y Z:Nat->Prop}
variable {w w':World}
variable {d:Pd}
variable {s:Js}
variable {a:Option Addr}
variable {zs:List Int}
open Go.RowKit
theorem standing_any(X:Nat->Prop)(w:World)(a0:Option Addr)(cp:Nat)(ps:List Pm)(hR:RdP X w a0 ps)(hp:∀p∈ps,0<=p.at_/\p.at_<524288)(hl:ps.length<=1073741823) :
  Calls Tryz.prog 78 #[.slice a0 ps.length cp] w fun e w'=>∃sv cS,e=.returned (.slice sv (standP ps).length cS)/\w'.ownsRow w.heap.size 144 2 (.slice sv (standP ps).length cS) (standP ps).length (pmCells (standP ps))/\Below w.heap.size w w':=by
 obtain⟨i68,hi68,hz68,hs68,hb68⟩:=info_parts info68
 have hmm:=@run_makeMap Tryz.prog
 have HR:=hid hR
 have HP:=hid hp
 obtain⟨w0,hw0⟩:∃w0,w0=(w.alloc (.cells #[] 144)).alloc (.map #[] 0):=⟨_,rfl⟩
 have R0:Hid (w0.ownsRow w.heap.size 144 2 (.slice (some ⟨w.heap.size,0,none⟩) 0 0) 0 []):=by rw[hw0];exact (World.ownsRow_lit w #[] 0 (Nat.le_refl _) (by decide) rfl).alloc _
 have M0:Hid (w0.ownsMap Tryz.prog 3 (plainElem Tryz.prog 3) (w.heap.size+1) 0 (.map []:DataW Unit)):=by
  have z:(w.alloc (.cells #[] 144)).heap.size=w.heap.size+1:=by simp
  rw[hw0,<- z]
  exact World.ownsMap_made _ Tryz.prog 3 (plainElem Tryz.prog 3)
 have B0:Hid (Below w.heap.size w w0):=by
  rw[hw0]
  exact ((Below.refl w.heap.size w).alloc (Nat.le_refl _) _).alloc (by simp) _
 generalize hN:ps.length=N at *
 clear hR hp
 go_enter Tryz.func78,Tryz.ntmps78
 go_wp2_with fail
 rw[<- hw0]
 go_loopw [3,13] (fun sv iv wr=>∃(q g cS n:Nat) (D:DataW Unit),q<=N/\iv=.int .i64 (q:Int)/\sv=.slice (some ⟨g,0,none⟩) (standP (ps.take q)).length cS/\wr.ownsRow w.heap.size 144 2 (.slice (some ⟨g,0,none⟩) (standP (ps.take q)).length cS) (standP (ps.take q)).length (pmCells (standP (ps.take q)))/\wr.ownsMap Tryz.prog 3 (plainElem Tryz.prog 3) (w.heap.size+1) n D/\n<=q/\(standP (ps.take q)).length<=q/\SM D (standP (ps.take q))/\Below w.heap.size w wr) (fun _ iv _=>N-(intOf iv).toNat)
 case atStart=>exact⟨0,w.heap.size,0,0,.map [],Nat.zero_le _,rfl,rfl,R0.out,M0.out,Nat.le_refl _,Nat.le_refl _,⟨⟨[],rfl⟩,fun i p hq=>by simp[standP]at hq,fun x _=>rfl⟩,B0.out⟩
 case round=>
  clear R0 M0 B0
  obtain⟨q,g,cS,n,D,hq,rfl,rfl,hrow,hmp,hnq,hSl,hSM,hbt⟩:=hrel
  generalize hS:standP (ps.take q)=S at *
  have hg:=World.ownsRow.lt hrow g rfl
  have hgm:=row_ne_mapI hrow hmp
  have hml:=hmp.lt
  have hsw:=hbt.size
  by_cases hqn:q<N
  ·have hqn':(q:Int)<(N:Int):=by omega
   obtain⟨pp,hpp⟩:∃pp,ps[q]?=some pp:=⟨_,List.getElem?_eq_getElem (by omega)⟩
   obtain⟨pa0,pa1⟩:=HP.out pp (List.mem_of_getElem? hpp)
   have hRr:=HR.out.but (But.of_below hbt (X:=fun _=>False)) (fun k _ r=>r.elim) X (fun k _ r=>r)
   obtain⟨bk,off,rfl,hbk,_,hcell⟩:∃b off,a0=some ⟨b,off,none⟩/\b<wr.heap.size/\¬X b/\∀(t:Nat) (p:Pm),ps[t]?=some p->wr.cell? ⟨b,off+t * 2,none⟩=some (.int .i64 p.at_)/\wr.cell? ⟨b,off+t * 2+1,none⟩=some (.slice p.ad p.data.length p.cap):=by
    rcases hRr.2 with e | e
    ·rw[e]at hpp;cases hpp
    ·exact e
   obtain⟨c0,c1⟩:=hcell q pp hpp
   have htk:ps.take (q+1)=ps.take q++[pp]:=by rw[List.take_add_one,hpp];rfl
   have hS2:standP (ps.take (q+1))=standStep S pp:=by rw[htk,standP_snoc,hS]
   obtain⟨w1,hw1⟩:∃w1,w1=wr.alloc (.cells #[.int .i64 pp.at_,.slice pp.ad pp.data.length pp.cap] 144):=⟨_,rfl⟩
   have b1:Below wr.heap.size wr w1:=by rw[hw1];exact (Below.refl _ _).alloc (Nat.le_refl _) _
   have z1:w1.heap.size=wr.heap.size+1:=by rw[hw1];simp
   have m0:w1.cell? ⟨wr.heap.size,0,none⟩=some (.int .i64 pp.at_):=by rw[hw1];exact cell_new rfl 0 _ rfl
   have m1:w1.cell? ⟨wr.heap.size,1,none⟩=some (.slice pp.ad pp.data.length pp.cap):=by rw[hw1];exact cell_new rfl 1 _ rfl
   have row1:=owns_below hrow b1
   have mp1:=mapI_keep hmp (b1.block _ hml)
   have hkey:keyOf Tryz.prog 3 (.int .i64 pp.at_)=some (.int .i64 pp.at_):=keyOf3 (wf_small pa0 pa1)
   have hB1:Below w.heap.size w w1:=hbt.trans (b1.mono hsw)
   have HW1:=hid hw1
   clear hw1
   cases hf:S.findIdx? (fun q=>q.at_ == pp.at_) with
   | some i=>
    obtain⟨e1,p0,hp0,hpa⟩:=standStep_hit hf
    rw[e1]at hS2
    have hil:=(List.getElem?_eq_some_iff.1 hp0).1
    obtain⟨hhas,hat⟩:=hSM.hit i p0 hp0
    rw[hpa]at hhas hat
    obtain⟨g0,g1⟩:=pmCells_get S i p0 hp0
    have k0:=row1.cellAt (i * 2) (by omega)
    have k1:=row1.cellAt (i * 2+1) (by omega)
    rw[g0]at k0
    rw[g1]at k1
    have f0:=row1.frozenAt (i * 2)
    have f1:=row1.frozenAt (i * 2+1)
    obtain⟨w2,hw2⟩:∃w2,w2=(w1.setCell ⟨g,i * 2,none⟩ (.int .i64 pp.at_)).setCell ⟨g,i * 2+1,none⟩ (.slice pp.ad pp.data.length pp.cap):=⟨_,rfl⟩
    have FIN:Hid (w2.ownsRow w.heap.size 144 2 (.slice (some ⟨g,0,none⟩) (standP (ps.take (q+1))).length cS) (standP (ps.take (q+1))).length (pmCells (standP (ps.take (q+1))))/\w2.ownsMap Tryz.prog 3 (plainElem Tryz.prog 3) (w.heap.size+1) n D/\n<=q+1/\(standP (ps.take (q+1))).length<=q+1/\SM D (standP (ps.take (q+1)))/\Below w.heap.size w w2/\(standP (ps.take (q+1))).length=S.length):=by
     rw[hS2,List.length_set,<- pmCells_set,hw2]
     refine⟨((row1.stored _ _).1.stored _ _).1,?_,by omega,by omega,hSM.set pp p0 i hp0 hpa,?_,rfl⟩
     ·exact mapI_keep mp1 (by rw[Below.heap_setCell _ _ _ _ (Ne.symm hgm),Below.heap_setCell _ _ _ _ (Ne.symm hgm)])
     ·exact ((((But.of_below hB1 (X:=fun k=>w.heap.size<=k)).setCell (p:=⟨g,i * 2,none⟩) hg.1 _).setCell (p:=⟨g,i * 2+1,none⟩) hg.1 _).below (Nat.le_refl _) (fun k hk r=>by omega))
    have hx1:(i:Int)<(S.length:Int):=by omega
    have HW2:=hid hw2
    clear hw2
    have hne:wr.heap.size≠g:=by omega
    clear hrow hmp hSM hbt row1 hB1 b1 htk hS2 hRr hcell hpp e1 hp0 hpa g0 g1 hf
    generalize S.length=L at *
    go_wp2_with (at_lookup;rw[<- HW1.out];refine wpList_lookup_own_ok_int _ rfl _ _ 172 rfl 3 3 .i64 law3 Tryz.underlying172 Tryz.underlying3 (zero3 _) (w.heap.size+1) n D rfl mp1 _ _ rfl hkey ?_;intro cc hat' hwc;obtain rfl:cc=(i:Int):=(by rw[hat]at hat';injection hat' with e;injection e with _ e;exact e.symm);clear hat';rw[hhas])
    go_roundw
    case rel=>exact⟨q+1,g,cS,n,D,by omega,by go_num,by rw[FIN.out.2.2.2.2.2.2],by rw[<- HW2.out];exact FIN.out.1,by rw[<- HW2.out];exact FIN.out.2.1,FIN.out.2.2.1,FIN.out.2.2.2.1,FIN.out.2.2.2.2.1,by rw[<- HW2.out];exact FIN.out.2.2.2.2.2.1⟩
    case measure=>simp[intOf];omega
   | none=>
    obtain⟨e1,hno⟩:=standStep_miss hf
    rw[e1]at hS2
    have hhas:=hSM.miss pp.at_ hno
    obtain⟨wU,hrun,mU,tU⟩:=World.ownsMap.store (w:=w1) (t:=172) (e:=3) (val:=.int .i64 (S.length:Int)) mp1 law3 Tryz.underlying172 (by unfold maxLen;omega) hkey (plainElem_int Tryz.underlying3 (WalkArith.wf_i64 (by omega)))
    have bU:=turned_but tU
    have zU:w1.heap.size<=wU.heap.size:=bU.size
    have u0:=(bU.cell (p:=⟨wr.heap.size,0,none⟩) (by show wr.heap.size<_;omega) (by show wr.heap.size≠_;omega)).trans m0
    have u1:=(bU.cell (p:=⟨wr.heap.size,1,none⟩) (by show wr.heap.size<_;omega) (by show wr.heap.size≠_;omega)).trans m1
    have rowU:=owns_keep (w':=wU) row1 (fun y e=>by
     have e2:g=y:=by simpa [Value.ownBlock] using e
     subst e2
     exact tU.grown.block g (by omega) (fun e=>hgm (Option.some.inj e)))
    have HRow:=hid (owns_below rowU ((Below.refl wU.heap.size wU).alloc (Nat.le_refl _) (.cells #[.int .i64 pp.at_,.slice pp.ad pp.data.length pp.cap] 144)))
    have hBU:But (fun k=>w.heap.size<=k) w wU:=(But.of_below hB1).comp bU (fun k hk e=>by omega)
    have PL:=hid (pmCells_length S)
    have KK:=hid (And.intro hS2 (And.intro hSM (And.intro hno (And.intro hBU mU))))
    have hne:wr.heap.size≠g:=by omega
    have hmU:w.heap.size+1<wU.heap.size:=by omega
    have hxU:wr.heap.size<wU.heap.size:=by omega
    have hgU:g<wU.heap.size:=by omega
    have hwU:w.heap.size<=wU.heap.size:=by omega
    clear hrow hmp hSM hbt row1 hB1 b1 htk hS2 hRr hcell hpp e1 hno hf mU tU bU zU rowU hBU z1
    obtain⟨L,hL⟩:∃L,L=S.length:=⟨_,rfl⟩
    rw[<- hL]at hrun HRow PL hSl
    rw[<- hL]
    have HL:=hid hL
    clear hL
    go_wp2_with (first
     | (at_lookup;rw[<- HW1.out];refine wpList_lookup_own_ok_int _ rfl _ _ 172 rfl 3 3 .i64 law3 Tryz.underlying172 Tryz.underlying3 (zero3 _) (w.heap.size+1) n D rfl mp1 _ _ rfl hkey ?_;intro cc hat' hwc;clear hat' hwc;rw[hhas])
     | (at_builtin;refine wpList_append_lies _ rfl _ _ _ rfl w.heap.size 144 i68 (.agg #[.int .i64 0,.slice none 0 0]) 2 32 Tryz.underlying87 hi68 hz68 hs68 hb68 rfl (by decide) _ L _ rfl (by exact HRow.out) ⟨wU.heap.size,0,none⟩ 1 1 [.int .i64 pp.at_,.slice pp.ad pp.data.length pp.cap] rfl rfl (by exact news2 wU _ _ _) (by intro u hu;simp at hu;rcases hu with rfl | rfl <;> rfl) (by decide) (by unfold maxLen;omega) (by omega) (by simp;omega) (wU.heap.size+1) (by simp) ?_;intro g4 cap4 w3 ho3 hg3 hl3 _;obtain⟨k0,k1,f0,f1⟩:=row_last ho3 PL.out;have t0:=(World.cell?_of_block (a:=⟨wr.heap.size,0,none⟩) (hg3.block wr.heap.size (by simp;omega) (fun e=>hne (Option.some.inj e)))).trans ((World.cell?_alloc_past _ _ _ hxU).trans u0);have t1:=(World.cell?_of_block (a:=⟨wr.heap.size,1,none⟩) (hg3.block wr.heap.size (by simp;omega) (fun e=>hne (Option.some.inj e)))).trans ((World.cell?_alloc_past _ _ _ hxU).trans u1);have FIN0:=hid (And.intro ho3 hg3);have x9:(L:Int)<(L:Int)+1:=(by omega);clear ho3 hg3 hl3 hrun u0 u1))
    obtain⟨hS2,hSM,hno,hBU,mU⟩:=KK.out
    obtain⟨ho3,hg3⟩:=FIN0.out
    have hL:=HL.out
    have hg4:=(World.ownsRow.lt ho3 g4 rfl).1
    have m3:w3.ownsMap Tryz.prog 3 (plainElem Tryz.prog 3) (w.heap.size+1) (n+1) (D.put (.int .i64 pp.at_) (.lit (.int .i64 (S.length:Int)))):=mapI_keep mU ((hg3.block _ (by simp;omega) (fun e=>hgm (Option.some.inj e).symm)).trans (Below.heap_alloc _ _ _ hmU))
    have hg4m:=row_ne_mapI ho3 m3
    have hb3:But (fun k=>w.heap.size<=k) w w3:=(hBU.alloc (.cells #[.int .i64 pp.at_,.slice pp.ad pp.data.length pp.cap] 144)).of_grown hg3 (fun x e _=>by have:=Option.some.inj e;subst this;exact hg.1)
    have hrow3:=((ho3.stored (L * 2) (.int .i64 pp.at_)).1.stored (L * 2+1) (.slice pp.ad pp.data.length pp.cap)).1
    rw[<- pmCells_snoc,pmCells_set,hL]at hrow3
    rw[show (S++[pp]).set S.length pp=S++[pp] by simp]at hrow3
    have hlS:(S++[pp]).length=L+1:=by rw[List.length_append,hL];rfl
    refine⟨⟨q+1,g4,cap4,n+1,_,by omega,by go_num,by rw[hS2,hlS],?_,mapI_keep m3 ?_,by omega,by rw[hS2,hlS];omega,by rw[hS2];exact hSM.push pp hno,?_⟩,by simp[intOf];omega⟩
    ·rw[hS2,hlS,hL]
     exact hrow3
    ·rw[Below.heap_setCell _ _ _ _ (Ne.symm hg4m),Below.heap_setCell _ _ _ _ (Ne.symm hg4m)]
    ·exact ((hb3.setCell (p:=⟨g4,L * 2,none⟩) hg4 _).setCell (p:=⟨g4,L * 2+1,none⟩) hg4 _).below (Nat.le_refl _) (fun k hk r=>by omega)
  ·have hqn':¬(q:Int)<(N:Int):=by omega
   have hqe:ps.take q=ps:=List.take_of_length_le (by omega)
   rw[hqe]at hS
   subst hS
   have FIN:=hid (And.intro hrow hbt)
   clear hrow hmp hSM hbt
   go_wp2
   go_ret
   exact⟨some ⟨g,0,none⟩,cS,rfl,FIN.out.1,FIN.out.2⟩
open Go.RowKit
theorem standStep_mem{S:List Pm}{p q:Pm}(h:q∈standStep S p):q∈S\/q=p:=by
 unfold standStep at h
 split at h
 ·exact List.mem_or_eq_of_mem_set h
 ·simpa using h
theorem stand_mem(ps S:List Pm){q:Pm}(h:q∈ps.foldl standStep S):q∈S\/q∈ps:=by
 induction ps generalizing S with
 | nil=>exact .inl h
 | cons p ps ih=>
  rcases ih _ h with h | h
  ·rcases standStep_mem h with h | h
   ·exact .inl h
   ·exact .inr (by simp[h])
  ·exact .inr (by simp[h])
theorem standP_mem{q:Pm}(h:q∈standP ps):q∈ps:=by
 rcases stand_mem ps [] h with h | h
 ·cases h
 ·exact h
theorem standStep_len(S:List Pm)(p:Pm):(standStep S p).length<=S.length+1:=by
 unfold standStep
 split
 ·rw[List.length_set];omega
 ·simp
theorem stand_len(ps S:List Pm):(ps.foldl standStep S).length<=S.length+ps.length:=by
 induction ps generalizing S with
 | nil=>exact Nat.le_refl _
 | cons p ps ih=>
  have h1:=ih (standStep S p)
  have h2:=standStep_len S p
  simp only[List.foldl_cons,List.length_cons]
  omega
theorem standP_len(ps:List Pm):(standP ps).length<=ps.length:=by
 have:=stand_len ps []
 simpa [standP] using this
def putsC (nb fr bl:Nat):List Pm->Int
 | []=>0
 | p :: ps=>if putC nb fr bl p.at_ p.data.length≠0 then putC nb fr bl p.at_ p.data.length else putsC nb fr bl ps
theorem putsC_zero{nb fr:Nat}(h:∀p∈ps,putC nb fr bl p.at_ p.data.length=0):putsC nb fr bl ps=0:=by
 induction ps with
 | nil=>rfl
 | cons p ps ih=>
  unfold putsC
  rw[if_neg (fun q=>q (h p (by simp)))]
  exact ih (fun q hq=>h q (by simp[hq]))
theorem putsC_hit{nb fr:Nat}{pp:Pm}(h:∀(t:Nat) (p:Pm),t<q->ps[t]?=some p->putC nb fr bl p.at_ p.data.length=0)(hp:ps[q]?=some pp)(hc:putC nb fr bl pp.at_ pp.data.length≠0):putsC nb fr bl ps=putC nb fr bl pp.at_ pp.data.length:=by
 induction ps generalizing q with
 | nil=>cases hp
 | cons p ps ih=>
  unfold putsC
  rcases q with _ | q
  ·simp at hp
   subst hp
   rw[if_pos hc]
  ·rw[if_neg (fun r=>r (h 0 p (by omega) rfl))]
   exact ih (q:=q) (fun t r ht hr=>h (t+1) r (by omega) (by simpa using hr)) (by simpa using hp)
def appC (nb fr bl:Nat) (d:Pd) (s:Js) (ps:List Pm):Int :=
 if d.off=true then 24 else if putsC nb fr bl ps≠0 then putsC nb fr bl ps else if bl / 2-4<(standP ps).length then 44 else if 1099511627776<=s.seq then 45 else 0
def appRecs (ps:List Pm):List (Int×List Int):=recsZ (bytesZ ((standP ps).map Pm.put))
def appE (bl:Nat) (s:Js) (ps:List Pm):Js:=⟨(wlE bl s (appRecs ps).length).life,(wlE bl s (appRecs ps).length).seq+1,(wlE bl s (appRecs ps).length).used,aheadP (wlE bl s (appRecs ps).length).ah ((standP ps).map Pm.put)⟩
def AppP (Z:Nat->Prop) (w:World) (j c p room nb K fr bl:Nat) (d:Pd) (s:Js) (ps:List Pm) (e:Ending) (w':World):Prop :=
 (appC nb fr bl d s ps=0->Did Z w j c p room nb K fr bl d (wlCmds nb fr bl s (appRecs ps)) (appE bl s ps) e w')/\(appC nb fr bl d s ps≠0->e=.returned (.int .i64 (appC nb fr bl d s ps))/\Below w.heap.size w w')
theorem AppP.no{room nb fr:Nat}{code:Int}(h:appC nb fr bl d s ps=code)(hc:code≠0)(hb:Below w.heap.size w w'):AppP Z w j c p room nb K fr bl d s ps (.returned (.int .i64 code)) w' :=
 ⟨fun q=>absurd (h.symm.trans q) hc,fun _=>⟨by rw[h],hb⟩⟩
theorem goS_seq(s:Js):(goS s).seq=s.seq:=by
 unfold goS
 split <;> rfl
theorem wlE_seq(bl:Nat)(s:Js)(n:Nat):(wlE bl s n).seq=s.seq:=by
 show (wlS bl s n).seq=s.seq
 unfold wlS
 split
 ·exact goS_seq s
 ·rfl
theorem length_recsZ(zs:List Int):(recsZ zs).length=pieceN zs.length+1:=by simp[recsZ]
theorem recs_fit(h0:16<=bl)(hk:k<=bl / 2-4):pieceN (515 * k)+1+1<=bl:=by
 unfold pieceN
 omega
theorem RdN.sub(h:RdN X w a n zs)(hx:∀k,Y k->X k):RdN Y w a n zs:=by
 obtain⟨q1,q2,q3⟩:=h
 refine⟨q1,q2,?_⟩
 rcases q3 with q3 | ⟨b,off,q4,q5,q6,q7⟩
 ·exact .inl q3
 ·exact .inr ⟨b,off,q4,q5,fun q=>q6 (hx b q),q7⟩
theorem rdr_of_owns{rv:Option Addr}{cR:Nat}{rs:List Rm}(hrow:w.ownsRow B 194 1 (.slice rv rs.length cR) rs.length (rs.map Rm.val))(hX:∀k,B<=k->¬X k)(hd:∀r∈rs,RdN X w r.ad r.body.length r.body):RdR X w rv rs:=by
 refine⟨hd,?_⟩
 rcases hrow.2 with ⟨_,q⟩ | ⟨g,cap,cur,q,hB,hg,_⟩
 ·exact .inl (List.eq_nil_of_length_eq_zero q)
 ·simp at q
  obtain⟨rfl,rfl⟩:=q
  refine .inr ⟨g,0,rfl,(Array.getElem?_eq_some_iff.1 hg).1,hX g hB,fun t r hr=>?_⟩
  have ht:=(List.getElem?_eq_some_iff.1 hr).1
  rw[Nat.zero_add,hrow.cellAt t (by omega),List.getElem?_map,hr]
  rfl
open Go.RowKit
theorem Append_on{room nb fr:Nat}(h:Jq Z w j c p room nb K fr bl d s)(hn:Jn nb fr bl s)(hon:d.off=false)(a0:Option Addr)(cp:Nat)(ps:List Pm)(hR:RdP Z w a0 ps)(hN:ps.length<=1073741823)(hl:d.puts.length+nb+bl+bl+16<=1073741823) :
  Calls Tryz.prog 43 #[.pointer (some ⟨j,0,none⟩),.slice a0 ps.length cp] w (AppP Z w j c p room nb K fr bl d s ps):=by
 have H:=hid h.ask
 rw[hon]at H
 have HJ:=hid (And.intro h (And.intro hn hR))
 have HON:Hid (d.off≠true):=by rw[hon];exact hid (by decide)
 have hlo:=hn.lo
 have hfit:=hn.fit
 have hnb:=hn.nb
 clear h hn hR hon
 obtain⟨N,hNe⟩:∃N,N=ps.length:=⟨_,rfl⟩
 rw[<- hNe]at hN
 rw[<- hNe]
 have HNE:=hid hNe
 clear hNe
 obtain⟨PO,hPO⟩:∃PO,PO=AppP Z w j c p room nb K fr bl d s ps:=⟨_,rfl⟩
 rw[<- hPO]
 have HPO:=hid hPO
 clear hPO
 go_enter Tryz.func43,Tryz.ntmps43
 go_wp2_with fail
 refine Calls.mono H.out ?_
 rintro e w0 ⟨rfl,b0⟩
 have B0:=hid b0
 clear b0 H
 go_wp2_with fail
 go_loopw [17] (fun iv wr=>∃q:Nat,q<=N/\iv=.int .i64 (q:Int)/\(∀(t:Nat) (p:Pm),t<q->ps[t]?=some p->putC nb fr bl p.at_ p.data.length=0)/\Below w.heap.size w wr) (fun iv _=>N-(intOf iv).toNat)
 case atStart=>exact⟨0,Nat.zero_le _,rfl,fun t p ht=>by omega,B0.out⟩
 case round=>
  clear B0
  obtain⟨q,hq,rfl,hok,hbt⟩:=hrel
  have hsw:=hbt.size
  have HOK:=hid hok
  have HBT:=hid hbt
  have hJr:=HJ.out.1.cut.below hbt
  have hRr:=HJ.out.2.2.but (But.of_below hbt (X:=fun _=>False)) (fun k _ r=>r.elim) (fun k=>Z k/\k<w.heap.size) (fun k _ r=>r.1)
  clear hok
  by_cases hqn:q<N
  ·have hqn':(q:Int)<(N:Int):=by omega
   obtain⟨pp,hpp⟩:∃pp,ps[q]?=some pp:=⟨_,List.getElem?_eq_getElem (by rw[<- HNE.out];exact hqn)⟩
   obtain⟨bk,off,rfl,hbk,_,hcell⟩:∃b off,a0=some ⟨b,off,none⟩/\b<wr.heap.size/\¬(Z b/\b<w.heap.size)/\∀(t:Nat) (p:Pm),ps[t]?=some p->wr.cell? ⟨b,off+t * 2,none⟩=some (.int .i64 p.at_)/\wr.cell? ⟨b,off+t * 2+1,none⟩=some (.slice p.ad p.data.length p.cap):=by
    rcases hRr.2 with e | e
    ·rw[e]at hpp;cases hpp
    ·exact e
   obtain⟨c0,c1⟩:=hcell q pp hpp
   obtain⟨w1,hw1⟩:∃w1,w1=wr.alloc (.cells #[.int .i64 pp.at_,.slice pp.ad pp.data.length pp.cap] 144):=⟨_,rfl⟩
   have b1:Below wr.heap.size wr w1:=by rw[hw1];exact (Below.refl _ _).alloc (Nat.le_refl _) _
   have HC:=hid (checkPut_any (hJr.below b1) hfit pp.at_ pp.ad pp.data.length pp.cap)
   have HB1:=hid (hbt.trans (b1.mono hsw))
   have HPP:=hid hpp
   have HW1:=hid hw1
   clear hcell hbt hJr hRr b1 hpp hw1
   generalize hco:putC nb fr bl pp.at_ pp.data.length=code at *
   have HCO:=hid hco
   clear hco
   go_wp2_with fail
   rw[<- HW1.out]
   refine Calls.mono HC.out ?_
   rintro e w2 ⟨rfl,b2⟩
   have HB2:=hid (HB1.out.trans (b2.mono HB1.out.size))
   clear b2 HC HB1 HW1
   by_cases hc:code=0
   ·subst hc
    go_wp2_with fail
    go_roundw
    case rel=>exact⟨q+1,by omega,by go_num,fun t r ht hr=>by
     by_cases e:t=q
     ·subst e
      rw[HPP.out]at hr
      cases hr
      exact HCO.out
     ·exact HOK.out t r (by omega) hr,HB2.out⟩
    case measure=>simp[intOf];omega
   ·have FIN:Hid (PO (.returned (.int .i64 code)) w2):=by
     rw[HPO.out]
     refine AppP.no ?_ hc HB2.out
     have e:=putsC_hit HOK.out HPP.out (by rw[HCO.out];exact hc)
     rw[HCO.out]at e
     unfold appC
     rw[if_neg HON.out,e,if_pos hc]
    clear HB2 HCO HPP HOK HBT
    go_wp2
    first | exact FIN.out | (go_ret;exact FIN.out)
  ·have hqn':¬(q:Int)<(N:Int):=by omega
   have HQ:=hid hqn
   have hall:∀p∈ps,putC nb fr bl p.at_ p.data.length=0:=fun p hp=>by
    obtain⟨t,ht⟩:=List.mem_iff_getElem?.1 hp
    have ht2:=(List.getElem?_eq_some_iff.1 ht).1
    exact HOK.out t p (by have:=HNE.out;omega) ht
   have hpz:=putsC_zero hall
   have hpt:∀p∈ps,p.data.length=512/\0<=p.at_/\p.at_<nb:=fun p hp=>by
    have:=putC_zero (hall p hp)
    exact⟨this.1,this.2.1,this.2.2.1⟩
   have HPT:=hid hpt
   have HS:=hid (standing_any (fun k=>Z k/\k<w.heap.size) wr a0 cp ps hRr (fun p hp=>⟨(hpt p hp).2.1,by have:=(hpt p hp).2.2;omega⟩) (by rw[<- HNE.out];exact hN))
   rw[<- HNE.out]at HS
   have HRR:=hid hRr
   have HPZ:=hid hpz
   have hkN:=standP_len ps
   rw[<- HNE.out]at hkN
   clear hall hpt hpz hRr hJr hbt hqn HOK
   go_wp2_with fail
   refine Calls.mono HS.out ?_
   rintro e w2 ⟨sv,cS,rfl,hrow,b2⟩
   have HB2:=hid (HBT.out.trans (b2.mono HBT.out.size))
   have hRS:RdP (fun k=>Z k/\k<w.heap.size) w2 sv (standP ps):=rdp_of_owns hrow rfl (fun k hk r=>by have:=r.2;omega) (fun p hp=>((HRR.out.but (But.of_below b2 (X:=fun _=>False)) (fun k _ r=>r.elim) (fun k=>Z k/\k<w.heap.size) (fun k _ r=>r)).1 p (standP_mem hp)))
   have hJ2:=HJ.out.1.cut.below HB2.out
   obtain⟨mv,hJb,_⟩:=hJ2.cells
   have j1:=hJb.cell 1
   have j2:=hJb.cell 2
   simp at j1 j2
   have HM:=hid (jmost_any (fr:Int) (bl:Int) (by omega) (by omega) w2)
   have hm:((bl:Int) / 2-4)=((bl / 2-4:Nat):Int):=by omega
   rw[hm]at HM
   have HRS:=hid hRS
   clear hm hRS hrow b2 HS hJ2 hJb HBT HRR
   obtain⟨k,hk⟩:∃k,k=(standP ps).length:=⟨_,rfl⟩
   rw[<- hk]at hkN
   rw[<- hk]
   have HK:=hid hk
   clear hk
   obtain⟨M,hM⟩:∃M,M=bl / 2-4:=⟨_,rfl⟩
   rw[<- hM]at HM
   have HMM:=hid hM
   clear hM
   go_wp2_with fail
   refine Calls.mono HM.out ?_
   rintro e w3 ⟨rfl,b3⟩
   have HB3:=hid (HB2.out.trans (b3.mono HB2.out.size))
   have HRS3:=hid (HRS.out.but (But.of_below b3 (X:=fun _=>False)) (fun k _ r=>r.elim) (fun k=>Z k/\k<w.heap.size) (fun k _ r=>r))
   clear b3 HM HB2 HRS j1 j2
   by_cases hbig:M<k
   ·have hx:(M:Int)<(k:Int):=by omega
    have FIN:Hid (PO (.returned (.int .i64 44)) w3):=by
     rw[HPO.out]
     refine AppP.no ?_ (by decide) HB3.out
     unfold appC
     rw[if_neg HON.out,HPZ.out,if_neg (fun r=>r rfl),if_pos (by rw[<- HMM.out,<- HK.out];exact hbig)]
    clear HB3 HRS3 HJ HPZ
    go_wp2
    first | exact FIN.out | (go_ret;exact FIN.out)
   ·have hx:¬(M:Int)<(k:Int):=by omega
    obtain⟨mv3,hJb3,_⟩:=(HJ.out.1.cut.below HB3.out).cells
    have HT:=hid (jtakesMore_any hJb3)
    clear hJb3
    by_cases hsq:s.seq<1099511627776
    ·have hsq':decide ((s.seq:Int)<1099511627776)=true:=by simp;omega
     rw[hsq']at HT
     clear hsq'
     have HSQ:=hid hsq
     have HC0:Hid (appC nb fr bl d s ps=0):=by
      unfold appC
      rw[if_neg HON.out,HPZ.out,if_neg (fun r=>r rfl),if_neg (by rw[<- HMM.out,<- HK.out];exact hbig),if_neg (by omega)]
      exact hid rfl
     have HRec:=hid (recordsOf_any (fun k=>Z k/\k<w.heap.size) w3 sv cS (standP ps) HRS3.out (fun p hp=>⟨(HPT.out p (standP_mem hp)).2.1,by have:=(HPT.out p (standP_mem hp)).2.2;omega,(HPT.out p (standP_mem hp)).1,(HRS3.out.1 p hp).2.1⟩) (by rw[<- HK.out];have:=HMM.out;omega))
     rw[<- HK.out]at HRec
     clear hsq
     go_wp2_with fail
     refine Calls.mono HT.out ?_
     rintro e w3b ⟨rfl,hw3b⟩
     obtain rfl:=hw3b
     clear HT
     go_wp2_with fail
     refine Calls.mono HRec.out ?_
     rintro e w4 ⟨rv,cR,rs,rfl,hout,hrow4,hrs,b4⟩
     have HB4:=hid (HB3.out.trans (b4.mono HB3.out.size))
     have hs3:=HB3.out.size
     have HRS4:=hid (HRS3.out.but (But.of_below b4 (X:=fun _=>False)) (fun k _ r=>r.elim) (fun k=>Z k/\k<w.heap.size) (fun k _ r=>r))
     have hRR:RdR (fun k=>Z k/\k<w.heap.size) w4 rv rs:=rdr_of_owns hrow4 (fun k hk r=>by have:=r.2;omega) (fun r hr=>(hrs r hr).2.2.sub (fun k q=>by have:=q.2;omega))
     have hbl:(bytesZ ((standP ps).map Pm.put)).length=515 * k:=by
      rw[length_bytesZ,List.length_map,<- HK.out]
      intro x hx
      obtain⟨r,hr,rfl⟩:=List.mem_map.1 hx
      exact (HPT.out r (standP_mem hr)).1
     have hln:rs.length=(appRecs ps).length:=by rw[<- List.length_map (f:=Rm.out),hout];rfl
     have hrl:rs.length+1<=bl:=by
      rw[hln]
      unfold appRecs
      rw[length_recsZ,hbl]
      exact recs_fit hlo (by have:=HMM.out;omega)
     have HWL:=hid (writeLog_any (HJ.out.1.cut.below HB4.out) HJ.out.2.1 rv cR rs hRR (fun r hr=>⟨(hrs r hr).1,(hrs r hr).2.1⟩) hrl hl)
     rw[show rs.map Rm.out=appRecs ps from hout]at HWL
     have HLN:=hid hln
     clear hout hrow4 hrs b4 hs3 hRR hbl hln hrl HRec HRS3 HB3
     generalize hcs:wlCmds nb fr bl s (appRecs ps)=cs at *
     have HCS:=hid hcs
     clear hcs
     go_wp2_with fail
     refine Calls.mono HWL.out ?_
     intro e w5 hD
     have hD0:=hD.from (fun k _ r=>r.1) (But.of_below HB4.out) (Z0:=Z)
     obtain⟨he,⟨Z5,s5,hJ5,hs5,hG5⟩,b5⟩:=hD
     subst he
     have hRS5:=HRS4.out.but b5 (fun k _ r=>r) Z5 hG5
     have hs4:=HB4.out.size
     have hg5:Gr Z Z5 w:=fun k hk r=>(hG5 k (by omega) r).1
     by_cases hc:(d.runs cs).1=0
     ·rw[hs5 hc]at hJ5
      have HTk:=hid (take_any hJ5 (by rw[wlE_seq];exact HSQ.out) sv cS (standP ps) hRS5 (fun p hp=>⟨(HPT.out p (standP_mem hp)).2.1,(HPT.out p (standP_mem hp)).2.2,(HPT.out p (standP_mem hp)).1⟩) (by rw[<- HK.out];omega))
      rw[<- HK.out,HLN.out]at HTk
      have FIN0:=hid (And.intro hc (And.intro hD0.2.2 hg5))
      rw[hc]
      clear hJ5 hs5 hG5 b5 hD0 hRS5 hs4 hg5 hc HWL HB4 HRS4 HSQ HLN
      go_wp2_with fail
      refine Calls.mono HTk.out ?_
      rintro e w6 ⟨rfl,⟨Z6,hJ6,hG6⟩,b6⟩
      have FIN:Hid (PO (.returned (.int .i64 0)) w6):=by
       obtain⟨hc,hb5,hg5⟩:=FIN0.out
       rw[HPO.out]
       refine⟨fun _=>?_,fun r=>absurd HC0.out r⟩
       rw[HCS.out]
       exact⟨by rw[hc],⟨Z6,appE bl s ps,hJ6,fun _=>rfl,hg5.trans hG6 hb5.size⟩,hb5.comp b6 (fun k hk r=>hg5 k hk r)⟩
      clear hJ6 hG6 b6 HTk FIN0 HCS HC0
      go_wp2
      first | exact FIN.out | (go_ret;exact FIN.out)
     ·have FIN:Hid (PO (.returned (.int .i64 (d.runs cs).1)) w5):=by
       rw[HPO.out]
       refine⟨fun _=>?_,fun r=>absurd HC0.out r⟩
       rw[HCS.out]
       exact⟨rfl,⟨Z5,s5,hJ5,fun r=>absurd r hc,hg5⟩,hD0.2.2⟩
      generalize (d.runs cs).1=code at *
      clear hJ5 hs5 hG5 b5 hD0 hRS5 hs4 hg5 HWL HB4 HRS4 HSQ HLN
      go_wp2
      first | exact FIN.out | (go_ret;exact FIN.out)
    ·have hsq':decide ((s.seq:Int)<1099511627776)=false:=by simp;omega
     rw[hsq']at HT
     clear hsq'
     have FIN:Hid (PO (.returned (.int .i64 45)) w3):=by
      rw[HPO.out]
      refine AppP.no ?_ (by decide) HB3.out
      unfold appC
      rw[if_neg HON.out,HPZ.out,if_neg (fun r=>r rfl),if_neg (by rw[<- HMM.out,<- HK.out];exact hbig),if_pos (by omega)]
     clear HB3 HRS3 HJ HPZ hsq
     go_wp2_with fail
     refine Calls.mono HT.out ?_
     rintro e w3b ⟨rfl,hw3b⟩
     obtain rfl:=hw3b
     clear HT
     go_wp2
     first | exact FIN.out | (go_ret;exact FIN.out)
open Go.RowKit
def Pd.poss (d:Pd) (x:Nat) (zs:List Int):Prop:=zs=imgB d.img x\/(x,zs)∈d.puts
theorem seen_poss(img:List Int)(puts:List (Nat×List Int))(x:Nat):seenZ img puts x=imgB img x\/(x,seenZ img puts x)∈puts:=by
 show puts.foldl (fun s q=>if q.1=x then q.2 else s) (imgB img x)=imgB img x\/(x,puts.foldl (fun s q=>if q.1=x then q.2 else s) (imgB img x))∈puts
 generalize imgB img x=a
 induction puts generalizing a with
 | nil=>exact .inl rfl
 | cons q r ih=>
  simp only[List.foldl_cons]
  by_cases e:q.1=x
  ·rw[if_pos e]
   rcases ih q.2 with h | h
   ·rw[h,<- e]
    exact .inr (by simp)
   ·exact .inr (by simp[h])
  ·rw[if_neg e]
   rcases ih a with h | h
   ·exact .inl h
   ·exact .inr (by simp[h])
theorem Pd.poss_read(d:Pd)(x:Nat):d.poss x (d.read x):=seen_poss d.img d.puts x
theorem Pd.wr_ok(h:(d.run1 (.wr y zs)).1=0):(d.run1 (.wr y zs)).2=⟨d.img,d.puts++[(y,zs)],burnF d.fu,false⟩:=by
 have e:d.run1 (.wr y zs)=if d.off=false/\d.fu≠0 then (0,⟨d.img,d.puts++[(y,zs)],burnF d.fu,false⟩) else (24,⟨d.img,d.puts,d.fu,true⟩):=rfl
 rw[e]at h ⊢
 split
 ·rfl
 ·rename_i q
  rw[if_neg q]at h
  cases h
theorem Pd.fl_ok(h:(d.run1 .fl).1=0):(d.run1 .fl).2=⟨flushZ d.img d.puts,[],burnF d.fu,false⟩:=by
 have e:d.run1 .fl=if d.off=false/\d.fu≠0 then (0,⟨flushZ d.img d.puts,[],burnF d.fu,false⟩) else (24,⟨d.img,d.puts,d.fu,true⟩):=rfl
 rw[e]at h ⊢
 split
 ·rfl
 ·rename_i q
  rw[if_neg q]at h
  cases h
theorem Pd.poss_wr(h:(d.run1 (.wr y zs)).1=0)(x:Nat)(v:List Int):(d.run1 (.wr y zs)).2.poss x v ↔ d.poss x v\/(x=y/\v=zs):=by
 rw[Pd.wr_ok h]
 unfold Pd.poss
 simp only[List.mem_append,List.mem_singleton,Prod.mk.injEq]
 constructor
 ·rintro (q | q | q)
  ·exact .inl (.inl q)
  ·exact .inl (.inr q)
  ·exact .inr q
 ·rintro ((q | q) | q)
  ·exact .inl q
  ·exact .inr (.inl q)
  ·exact .inr (.inr q)
theorem Pd.read_wr(h:(d.run1 (.wr y zs)).1=0)(x:Nat):(d.run1 (.wr y zs)).2.read x=if y=x then zs else d.read x:=by
 rw[Pd.wr_ok h]
 exact seen_push d.img d.puts y zs x
theorem Pd.read_fl{nb:Nat}(hf:d.Fits nb)(h:(d.run1 .fl).1=0)(x:Nat):(d.run1 .fl).2.read x=d.read x:=by
 rw[Pd.fl_ok h]
 exact flush_seen d.puts d.img hf.1 hf.2.2
theorem Pd.poss_fl{nb:Nat}(hf:d.Fits nb)(h:(d.run1 .fl).1=0)(x:Nat)(v:List Int):(d.run1 .fl).2.poss x v ↔ v=d.read x:=by
 rw[Pd.fl_ok h]
 unfold Pd.poss
 rw[flush_seen d.puts d.img hf.1 hf.2.2]
 constructor
 ·rintro (q | q)
  ·exact q
  ·cases q
 ·exact .inl
theorem Pd.Fits.run1{nb:Nat}(hf:d.Fits nb){c:Cmd}(hc:c.Ok nb):(d.run1 c).2.Fits nb:=by
 rcases d.run1_code c with ⟨h1,_⟩ | ⟨_,h2⟩
 ·rcases c.both with ⟨x,zs,rfl⟩ | rfl
  ·skip
   rw[Pd.wr_ok h1]
   refine⟨hf.1,hf.2.1,fun q hq=>?_⟩
   rcases List.mem_append.1 hq with hq | hq
   ·exact hf.2.2 q hq
   ·simp at hq
    subst hq
    exact hc
  ·skip
   rw[Pd.fl_ok h1]
   refine⟨?_,?_,fun q hq=>by cases hq⟩
   ·show (flushZ d.img d.puts).length=_
    have:∀(ps:List (Nat×List Int)) (im:List Int),im.length=512 * nb->Fit nb ps->(flushZ im ps).length=512 * nb:=by
     intro ps
     induction ps with
     | nil=>intro im h _;exact h
     | cons q r ih=>
      intro im h hq
      have f:=hq q (by simp)
      exact ih _ (by rw[length_splice _ _ _ (by omega)];exact h) (fun q' h'=>hq q' (by simp[h']))
    exact this _ _ hf.1 hf.2.2
   ·show Pl.isB (flushZ d.img d.puts)
    have:∀(ps:List (Nat×List Int)) (im:List Int),Pl.isB im->Fit nb ps->Pl.isB (flushZ im ps):=by
     intro ps
     induction ps with
     | nil=>intro im h _;exact h
     | cons q r ih=>
      intro im h hq
      exact ih _ (isB_splice h (hq q (by simp)).2.2 _) (fun q' h'=>hq q' (by simp[h']))
    exact this _ _ hf.2.1 hf.2.2
 ·rw[h2]
  exact hf
open Go.RowKit
theorem stampZ_eq(k l:Int)(body:List Int):stampZ k l body=(k :: (Pl.dig (body.length:Int) 2++Pl.dig l 8))++(Pl.dig (crc (bareZ k l body)) 4++(body++zeros (497-body.length))):=by
 unfold stampZ
 generalize crc (bareZ k l body)=C
 simp[bareZ,splice,Pl.dig]
theorem stampZ_bare(k l:Int)(body:List Int):splice (stampZ k l body) 11 [0,0,0,0]=bareZ k l body:=by
 unfold stampZ
 generalize crc (bareZ k l body)=C
 simp[bareZ,splice,Pl.dig]
theorem zeroB_zeros(n:Nat):zeroB (zeros n)=true:=by
 simp[zeroB,zeros]
theorem unZ_stampZ{k l:Int}{body:List Int}(hk:1<=k)(hl:0<=l/\l<=1099511627776)(hb:body.length<=497)(hB:Pl.isB (bareZ k l body)):unZ (stampZ k l body)=some (k,l,body):=by
 have e:=stampZ_eq k l body
 have hc:=crc_bd hB
 have hbr:=stampZ_bare k l body
 generalize hC:crc (bareZ k l body)=C at *
 have l2:=Pl.length_dig (body.length:Int) 2
 have l8:=Pl.length_dig l 8
 have l4:=Pl.length_dig C 4
 have n2:=Pl.num_dig (body.length:Int) 2 (by omega) (by omega)
 have n8:=Pl.num_dig l 8 hl.1 (by rw[Pl.pow8];omega)
 have n4:=Pl.num_dig C 4 hc.1 (by omega)
 generalize Pl.dig (body.length:Int) 2=d2 at *
 generalize Pl.dig l 8=d8 at *
 generalize Pl.dig C 4=d4 at *
 have q0:(stampZ k l body).getD 0 0=k:=by rw[e];rfl
 have q2:((stampZ k l body).drop 1).take 2=d2:=by
  rw[e]
  show ((d2++d8)++_).take 2=d2
  rw[List.append_assoc,List.take_left' l2]
 have q8:((stampZ k l body).drop 3).take 8=d8:=by
  rw[e]
  show (((d2++d8)++_).drop 2).take 8=d8
  rw[List.append_assoc,List.drop_left' l2,List.take_left' l8]
 have q4:((stampZ k l body).drop 11).take 4=d4:=by
  rw[e,List.drop_left' (by simp[l2,l8]),List.take_left' l4]
 have q15:(stampZ k l body).drop 15=body++zeros (497-body.length):=by
  rw[e,<- List.append_assoc,List.drop_left' (by simp[l2,l8,l4])]
 unfold unZ
 rw[q0,q2,q8,q4,n2,n8,n4,hbr,hC,if_neg (by omega)]
 rw[<- List.drop_drop,q15,Int.toNat_natCast,List.drop_left' rfl,zeroB_zeros,if_neg (by simp),List.take_left' rfl]
end Go.Proofs.YtlefjidbpjkhlaaGreat
