import Derived.Test.YthfojpcibnfmgaaGreatV45
import Derived.Test.YthfojpcibnfmgaaGreatV46
import Derived.Test.YthfojpcibnfmgaaGreatV11
import Derived.Lib.AppendZeros
import Derived.Deep.DeepCutAuto
set_option maxRecDepth 100000
set_option maxHeartbeats 16000000
namespace Go.Proofs.YthfojpcibnfmgaaGreat
variable {B Q:Nat->Prop}
variable {w:World}
variable {M i sc:Nat}
variable {sa:Option Addr}
variable {As:List Aw}
open Go.RowKit Go.Deep
variable {Gm:Nat×Nat×Nat}
def Rnq (Gm:Nat×Nat×Nat) (B:Nat->Prop) (w wr:World) (ob M i:Nat) (q:Aw) (PO:Ending->World->Prop):Prop:=Calls Tryz.prog 43 #[.pointer (some ⟨ob,0,none⟩),.int .i64 q.tx] (wr.alloc (.cells #[.int .i64 q.wh,.int .i64 q.kd,.int .i64 q.tx,.int .i64 q.at_,.int .i64 q.fl,.slice q.ra q.rn q.rc] 42)) fun e w1=>∃(tv rv:Value) (WQ:World->Value->Prop),e=.returned (.tuple #[tv,rv])/\w1.cell? ⟨wr.heap.size,1,none⟩=some (.int .i64 q.kd)/\((q.kd≠8/\∀wx,Below w1.heap.size w1 wx->WQ wx (.slice none 0 0))\/(q.kd=8/\rv=.pointer none/\∀wx,Below w1.heap.size w1 wx->WQ wx (.slice none 0 0))\/(q.kd=8/\∃g,rv=.pointer (some ⟨g,0,none⟩)/\w1.cell? ⟨g,3,none⟩=some (.bool true)/\∀wx,Below w1.heap.size w1 wx->WQ wx (.slice none 0 0))\/(q.kd=8/\∃(g rb:Nat) (pa:Option Addr) (np pc cn bl:Nat),rv=.pointer (some ⟨g,0,none⟩)/\(∀wx,Below w1.heap.size w1 wx->wx.cell? ⟨wr.heap.size,1,none⟩=some (.int .i64 q.kd)/\wx.cell? ⟨g,3,none⟩=some (.bool false)/\wx.cell? ⟨g,1,none⟩=some (.slice pa np pc)/\wx.cell? ⟨ob,2,none⟩=some (.pointer (some ⟨rb,0,none⟩))/\wx.cell? ⟨rb,2,none⟩=some (.int .i64 (bl:Int)))/\16<=bl/\bl<=524288/\(Calls Tryz.prog 53 #[.pointer (some ⟨g,0,none⟩)] w1.drew fun e w2=>e=.returned (.int .i64 ((cn:Nat):Int))/\Below w1.heap.size w1 w2)/\((¬cn<=bl / 2-4/\∀wx,Below w1.heap.size w1 wx->WQ wx (.slice none 0 0))\/(cn<=bl / 2-4/\np=0/\∀wx,Below w1.heap.size w1 wx->WQ wx (.slice none 0 0))\/(cn<=bl / 2-4/\0<np/\np<=1073741823/\∃pg ps,pa=some ⟨pg,0,none⟩/\(∀wx,Below w1.heap.size w1 wx->∀j u,(puCells ps)[j]?=some u->wx.cell? ((⟨pg,0,none⟩:Addr).add j)=some u)/\(puCells ps).length=np * 2/\(∀u∈puCells ps,u.oneCell'=true)/\∀wx w2 g4 c4,Below w1.heap.size w1 w2->wx.ownsRow 0 150 2 (.slice (some ⟨g4,0,none⟩) np c4) np (puCells ps)->w2.grownBy wx none->g4=w2.heap.size->Below w1.heap.size w1 wx/\WQ wx (.slice (some ⟨g4,0,none⟩) np c4)))))/\∀wx wv,Below w1.heap.size w1 wx->WQ wx wv->∃rb su n0 da dc,(wx.cell? ⟨ob,2,none⟩=some (.pointer (some ⟨rb,0,none⟩))/\wx.cell? ⟨rb,5,none⟩=some (.int .i64 su)/\wx.cell? ⟨rb,4,none⟩=some (.slice da n0 dc)/\wx.cell? ⟨wr.heap.size,0,none⟩=some (.int .i64 q.wh)/\wx.cell? ⟨wr.heap.size,1,none⟩=some (.int .i64 q.kd)/\wx.cell? ⟨wr.heap.size,2,none⟩=some (.int .i64 q.tx)/\wx.cell? ⟨wr.heap.size,3,none⟩=some (.int .i64 q.at_)/\wx.cell? ⟨wr.heap.size,4,none⟩=some (.int .i64 q.fl)/\wx.cell? ⟨wr.heap.size,5,none⟩=some (.slice q.ra q.rn q.rc))/\Calls Tryz.prog 13 #[.pointer (some ⟨ob,0,none⟩),.agg #[.int .i64 q.wh,.int .i64 q.kd,.int .i64 q.tx,.int .i64 q.at_,.int .i64 q.fl,.slice q.ra q.rn q.rc],.pointer (some ⟨ob,0,none⟩)] wx (fun e w4=>(∃u rb off p,e=.returned (.tuple #[.bool true,u])/\w4.cell? ⟨ob,2,none⟩=some (.pointer (some ⟨rb,0,none⟩))/\w4.cell? ⟨rb,7,none⟩=some (.bool off)/\w4.cell? ⟨ob,0,none⟩=some (.pointer (some ⟨p,0,none⟩))/\(off=true->PO (.returned (.tuple #[.slice none 0 0,.bool true])) w4)/\(off=false->Calls Tryz.prog 54 #[.pointer (some ⟨p,0,none⟩)] w4 fun e w5=>e=.returned (.bool true)/\Lvs Gm B w ob (M+(i+1)) w5))\/(e=.returned (.tuple #[.bool false,.slice none 0 0])/\∃rb p da dn dc,w4.cell? ⟨ob,2,none⟩=some (.pointer (some ⟨rb,0,none⟩))/\w4.cell? ⟨rb,7,none⟩=some (.bool false)/\w4.cell? ⟨ob,0,none⟩=some (.pointer (some ⟨p,0,none⟩))/\Calls Tryz.prog 54 #[.pointer (some ⟨p,0,none⟩)] w4 fun e w5=>e=.returned (.bool false)/\w5.cell? ⟨ob,2,none⟩=some (.pointer (some ⟨rb,0,none⟩))/\w5.cell? ⟨rb,7,none⟩=some (.bool false)/\w5.frozen? ⟨rb,7,none⟩=false/\(∀w6,w6=w5.setCell ⟨rb,7,none⟩ (.bool true)->w6.cell? ⟨ob,2,none⟩=some (.pointer (some ⟨rb,0,none⟩))/\(∃old,w6.cell? ⟨rb,5,none⟩=some (.int .i64 old))/\w6.frozen? ⟨rb,5,none⟩=false/\∀w7,w7=w6.setCell ⟨rb,5,none⟩ (.int .i64 su)->w7.cell? ⟨ob,2,none⟩=some (.pointer (some ⟨rb,0,none⟩))/\w7.cell? ⟨rb,4,none⟩=some (.slice da dn dc)/\w7.frozen? ⟨rb,4,none⟩=false/\n0<=dc/\(w7.drew.setCell ⟨rb,4,none⟩ (.slice da n0 dc)).cell? ⟨ob,2,none⟩=some (.pointer (some ⟨rb,0,none⟩))/\PO (.returned (.tuple #[wv,.bool true])) (w7.drew.setCell ⟨rb,4,none⟩ (.slice da n0 dc)))))
theorem lives_round{wr:World}{ob N:Nat}(hS:Lvs Gm B w ob (M+i) wr)(hM:M+i+2<=268435455)(hi:i<N)(q:Aw)(hq:AwIn Q wr q)(hQB:∀k,Q k->¬B k)(hQl:∀k,Q k->k<w.heap.size)(PO:Ending->World->Prop)(hPO:PO=LivP Gm B w ob (M+N+1)):Rnq Gm B w wr ob M i q PO:=by
 unfold Rnq
 obtain⟨B1,Y,v,h,hr,hB,hon,hG,hb⟩:=hS
 have hs0:=hb.size
 have hBl:∀k,B1 k->k<wr.heap.size:=fun k e=>h.lt ((hB k).1 e)
 have b0:Below wr.heap.size wr (wr.alloc (.cells #[.int .i64 q.wh,.int .i64 q.kd,.int .i64 q.tx,.int .i64 q.at_,.int .i64 q.fl,.slice q.ra q.rn q.rc] 42)):=(Below.refl _ _).alloc (Nat.le_refl _) _
 have hbx0:Bx (wr.alloc (.cells #[.int .i64 q.wh,.int .i64 q.kd,.int .i64 q.tx,.int .i64 q.at_,.int .i64 q.fl,.slice q.ra q.rn q.rc] 42)) wr.heap.size q.wh q.kd q.tx q.at_ q.fl (.slice q.ra q.rn q.rc):=alloc_new rfl _
 have hM1:M+i<=268435455:=by omega
 refine Calls.mono ((h.low b0).pickF hr hB hM1 q.tx) ?_
 rintro e w1 ⟨who,rfl,hp,h1,b1⟩
 have b01:Below wr.heap.size wr w1:=b0.trans (b1.mono b0.size)
 have s01:=b01.size
 have sA:wr.heap.size<w1.heap.size:=by
  have:=b1.size
  simp at this
  omega
 have hbx1:=hbx0.low b1
 have k1:=hbx1.cell 1
 simp at k1
 obtain⟨HW,hHW⟩:∃HW:List Pu->Prop,HW=fun ways=>(q.kd≠8->ways=[])/\(q.kd=8->∀t,v.r.q=some t->pkR v q.tx=ptrV t.g->0<cntU t.ps t.ps.length->cntU t.ps t.ps.length<=v.bl / 2-4->ways=t.ps):=⟨_,rfl⟩
 have hdb:=hr.db
 refine⟨pkT v q.tx,pkR v q.tx,fun wx wv=>∃ways,WayR w wx B1 wv ways/\HW ways,rfl,k1,?_,?_⟩
 ·by_cases hk:q.kd=8
  ·refine .inr ?_
   have hp2:=hp.2.1
   cases who with
   | none=>
    refine .inl ⟨hk,hp2,fun wx bx=>⟨[],.inl ⟨rfl,rfl⟩,?_⟩⟩
    rw[hHW]
    refine⟨fun _=>rfl,fun _ t _ e2=>?_⟩
    have e3:pkR v q.tx=.pointer none:=hp2
    rw[e3]at e2
    cases e2
   | some bb=>
    cases bb with
    | false=>
     obtain⟨g,pv,mv,e1,hg⟩:=hp2
     have k3:=hg.cell 3
     simp at k3
     refine .inr (.inl ⟨hk,g,e1,k3,fun wx bx=>⟨[],.inl ⟨rfl,rfl⟩,?_⟩⟩)
     rw[hHW]
     refine⟨fun _=>rfl,fun _ t e3 e2=>?_⟩
     rw[e1]at e2
     have e4:g=t.g:=by
      unfold ptrV at e2
      injection e2 with e2
      injection e2 with e2
      injection e2
     have hT:=(h1.R.rf.tx t e3).blk
     unfold Rt5 at hT hg
     rw[<- e4,hg]at hT
     injection hT with hT
     injection hT with hT
     simp at hT
    | true=>
     obtain⟨t,ht,e1⟩:=hp2
     have hT:=h1.R.rf.tx t ht
     obtain⟨pa,pc,e5,hPu⟩:=PutsL.of_row hT.pr rfl
     have hTb:=hT.blk
     rw[e5]at hTb
     have hpsl:t.ps.length<=1073741823:=hr.ps hM1 t ht
     have hgl:=hTb.lt
     have hobl:=h1.R.ob
     have hsl:=h1.R.rf.sto.lt
     refine .inr (.inr ⟨hk,t.g,v.r.rb,pa,t.ps.length,pc,cntU t.ps t.ps.length,v.bl,e1,fun wx bx=>?_,hr.lo,by have:=hr.fit;have:=hr.nb;omega,?_,?_⟩)
     ·have hx:=hTb.keep (bx.block t.g hgl)
      have sx:=h1.R.rf.sto.keep (bx.block _ hsl)
      refine⟨((hbx1.low bx).cell 1).trans rfl,(hx.cell 3).trans rfl,(hx.cell 1).trans rfl,(bx.cell (p:=⟨ob,2,none⟩) hobl).trans h1.R.cells.2.2.1,(sx.cell 2).trans rfl⟩
     ·refine Calls.mono (rblocks_any (hTb.keep (w':=w1.drew) rfl) (hPu.below (Below.refl _ _).drew) hpsl) ?_
      rintro e w2 ⟨rfl,b2⟩
      exact⟨rfl,(Below.refl w1.heap.size w1).drew.trans b2⟩
     ·have hnil:(¬(0<cntU t.ps t.ps.length/\cntU t.ps t.ps.length<=v.bl / 2-4))->∀wx,Below w1.heap.size w1 wx->∃ways,WayR w wx B1 (.slice none 0 0) ways/\HW ways:=fun hn wx bx=>by
       refine⟨[],.inl ⟨rfl,rfl⟩,?_⟩
       rw[hHW]
       refine⟨fun _=>rfl,fun _ t9 e3 _ e4 e5=>?_⟩
       rw[ht]at e3
       cases e3
       exact absurd ⟨e4,e5⟩ hn
      by_cases hle:cntU t.ps t.ps.length<=v.bl / 2-4
      ·by_cases hz:t.ps.length=0
       ·refine .inr (.inl ⟨hle,hz,hnil (fun e=>?_)⟩)
        have:=cntU_le t.ps t.ps.length
        omega
       ·obtain⟨pg,pc2,e6,_⟩:=row_full hT.pr (by omega)
        obtain⟨e7,e8⟩:pa=some ⟨pg,0,none⟩/\pc=pc2:=by
         rw[e5]at e6
         injection e6 with x1 _ x2
         exact⟨x1,x2⟩
        have hpr:=hT.pr
        rw[e6]at hpr
        refine .inr (.inr ⟨hle,by omega,hpsl,pg,t.ps,e7,fun wx bx j u hj=>World.ownsRow.cells (owns_below hpr bx) rfl j u hj,puCells_length t.ps,fun u hu=>?_,fun wx w2 g4 c4 b2 ho hg hg4=>?_⟩)
        ·obtain⟨z,_,hz2⟩:=List.mem_flatMap.1 hu
         simp at hz2
         rcases hz2 with rfl | rfl <;> rfl
        ·have bx:Below w1.heap.size w1 wx:=b2.grown hg b2.size (fun k e=>by cases e)
         refine⟨bx,t.ps,.inr ⟨fun e=>hz (by rw[e];rfl),g4,c4,rfl,ho,?_,fun e=>?_⟩,?_⟩
         ·have:=b2.size
          omega
         ·have:=hBl g4 e
          have:=b2.size
          omega
         ·rw[hHW]
          refine⟨fun e=>absurd hk e,fun _ t9 e3 _ _ _=>?_⟩
          rw[ht]at e3
          cases e3
          rfl
      ·exact .inl ⟨hle,hnil (fun e=>hle e.2)⟩
  ·refine .inl ⟨hk,fun wx bx=>⟨[],.inl ⟨rfl,rfl⟩,?_⟩⟩
   rw[hHW]
   exact⟨fun _=>rfl,fun e=>absurd e hk⟩
 ·rintro wx wv bx ⟨ways,hway,hHw⟩
  have hx:=h1.low bx
  have bwx:Below wr.heap.size wr wx:=b01.trans (bx.mono s01)
  have sx:=bwx.size
  obtain⟨da,dc,hdv,_⟩:=hx.R.rf.done
  have hsto:=hx.R.rf.sto
  rw[hdv]at hsto
  have hbxx:=hbx1.low bx
  refine⟨v.r.rb,v.r.sure,v.r.Ds.length,da,dc,⟨hx.R.cells.2.2.1,(hsto.cell 5).trans rfl,(hsto.cell 4).trans rfl,(hbxx.cell 0).trans rfl,(hbxx.cell 1).trans rfl,(hbxx.cell 2).trans rfl,(hbxx.cell 3).trans rfl,(hbxx.cell 4).trans rfl,(hbxx.cell 5).trans rfl⟩,?_⟩
  have hok:AwOk B1 wx q:=by
   obtain⟨r1,r2,r3,zs,r4⟩:=hq
   refine⟨r1,r2,r3,zs,?_⟩
   have r5:RdN (fun k=>¬Q k) wx q.ra q.rn zs:=r4.but (But.of_below bwx)
   exact r5.mono (fun k _ e1 e2=>hQB k e2 (hG k (hQl k e2) e1))
  have hq2:=hx.act hr hB hM1 q hok
  unfold Aw.val Aw.cells at hq2
  refine Calls.mono hq2 ?_
  rintro e w4 (⟨u,rfl,B4,⟨Y4,v4,d4,r4,hB4⟩,g4,c4⟩ | ⟨rfl,hgone⟩)
  ·have hw4:But B w w4:=hb.comp ((But.of_below bwx).trans c4) (fun k hk e=>hG k hk e)
   have g04:Gr B B4 w:=fun k hk e=>hG k hk (g4 k (by omega) e)
   have k7:=d4.R.rf.sto.cell 7
   simp at k7
   refine .inl ⟨u,v4.r.rb,v4.r.off,v4.p,rfl,d4.R.cells.2.2.1,k7,d4.R.cells.1,fun e=>?_,fun e=>?_⟩
   ·rw[hPO]
    exact⟨_,[],Y4,v4,rfl,(Ed.of_rl d4 r4).mono (by omega),fun k hk e=>g04 k hk ((hB4 k).2 e.ball),hw4,.inl ⟨rfl,rfl⟩⟩
   ·refine Calls.mono d4.P.pg.don ?_
    rintro e5 w5 ⟨rfl,b5⟩
    have hoff:v4.d.off=false:=r4.off.symm.trans e
    refine⟨by rw[hoff];rfl,B4,Y4,v4,d4.low b5,r4,hB4,hoff,g04,hw4.trans (But.of_below b5)⟩
  ·have hDG:∃way,DskG Gm B1 wx w4 ob (M+i) v way/\way=ways:=by
    rw[hHW]at hHw
    rcases hgone with ⟨e1,t,e2,e3,e4,e5,hd⟩ | ⟨e1,hd⟩
    ·exact⟨_,hd,(hHw.2 e1 t e2 e3 e4 e5).symm⟩
    ·exact⟨_,hd,(hHw.1 (by rw[e1];decide)).symm⟩
   obtain⟨way,⟨B4,Y4,v4,d4,rg,hB4,g4,c4,hown⟩,rfl⟩:=hDG
   have hw4:But B w w4:=hb.comp ((But.of_below bwx).trans c4) (fun k hk e=>hG k hk e)
   have g04:Gr B B4 w:=fun k hk e=>hG k hk (g4 k (by omega) e)
   have hwy:=hway.go c4 g4
   obtain⟨da4,dc4,hdv4,_⟩:=d4.R.rf.done
   have k7:=d4.R.rf.sto.cell 7
   simp at k7
   rw[rg.roff]at k7
   refine .inr ⟨rfl,v4.r.rb,v4.p,da4,v4.r.Ds.length,dc4,d4.R.cells.2.2.1,k7,d4.R.cells.1,?_⟩
   refine Calls.mono d4.P.pg.don ?_
   rintro e5 w5 ⟨rfl,b5⟩
   have d5:=d4.low b5
   have s5:=d5.R.rf.sto
   rw[rg.roff,hdv4]at s5
   have hob5:=d5.R.ob
   have hrbl:=s5.lt
   have hobn:ob≠v4.r.rb:=fun e=>d5.R.nob (.inl e)
   have b6:But (fun k=>k=v4.r.rb) w5 (w5.setCell ⟨v4.r.rb,7,none⟩ (.bool true)):=(But.refl (fun k=>k=v4.r.rb) w5).setCell (p:=⟨v4.r.rb,7,none⟩) rfl _
   have s6:=s5.set7 true
   refine⟨by rw[rg.doff];rfl,d5.R.cells.2.2.1,(s5.cell 7).trans rfl,s5.frozen 7,fun w6 hw6=>?_⟩
   subst hw6
   have b7:But (fun k=>k=v4.r.rb) w5 ((w5.setCell ⟨v4.r.rb,7,none⟩ (.bool true)).setCell ⟨v4.r.rb,5,none⟩ (.int .i64 v.r.sure)):=b6.setCell (p:=⟨v4.r.rb,5,none⟩) rfl _
   have s7:=s6.set5 v.r.sure
   refine⟨(b6.cell (p:=⟨ob,2,none⟩) hob5 hobn).trans d5.R.cells.2.2.1,⟨_,(s6.cell 5).trans rfl⟩,s6.frozen 5,fun w7 hw7=>?_⟩
   subst hw7
   have b8:But (fun k=>k=v4.r.rb) w5 (((w5.setCell ⟨v4.r.rb,7,none⟩ (.bool true)).setCell ⟨v4.r.rb,5,none⟩ (.int .i64 v.r.sure)).drew.setCell ⟨v4.r.rb,4,none⟩ (.slice da4 v.r.Ds.length dc4)):=(b7.trans (But.of_below (Below.refl _ _).drew)).setCell (p:=⟨v4.r.rb,4,none⟩) rfl _
   refine⟨(b7.cell (p:=⟨ob,2,none⟩) hob5 hobn).trans d5.R.cells.2.2.1,(s7.cell 4).trans rfl,s7.frozen 4,?_,(b8.cell (p:=⟨ob,2,none⟩) hob5 hobn).trans d5.R.cells.2.2.1,?_⟩
   ·obtain⟨a9,c9,e9,hn9,_⟩:=d5.R.rf.don.slice
    rw[hdv4]at e9
    injection e9 with _ _ e9
    have:v.r.Ds.length<=v4.r.Ds.length:=by rw[rg.ds,List.length_append];omega
    omega
   ·rw[hPO]
    have s8:Rs5 (((w5.setCell ⟨v4.r.rb,7,none⟩ (.bool true)).setCell ⟨v4.r.rb,5,none⟩ (.int .i64 v.r.sure)).drew.setCell ⟨v4.r.rb,4,none⟩ (.slice da4 v.r.Ds.length dc4)) v4.r.rb v4.nb v4.fr v4.bl v4.r.fv (.slice da4 v.r.Ds.length dc4) v.r.sure (qPtr v4.r.q) true:=(s7.keep (w':=((w5.setCell ⟨v4.r.rb,7,none⟩ (.bool true)).setCell ⟨v4.r.rb,5,none⟩ (.int .i64 v.r.sure)).drew) rfl).set4 _
    have hEd:=Dq.gone d5 rg hr (fun e=>owns_below (hown e) b5) hdv4 b8 s8
    have hB4rb:B4 v4.r.rb:=(hB4 _).2 (.inr (.inl (.inl (.inl rfl))))
    have hsub:∀k,Edset Y4 ob { v4 with r:={ v4.r with off:=true,sure:=v.r.sure,dv:=.slice da4 v.r.Ds.length dc4,Ds:=v.r.Ds,rs:=v4.r.rs.take v.r.Ds.length } } k->B4 k:=fun k hk=>by
     refine (hB4 k).2 ?_
     rcases hk with hk | hk | hk
     ·exact .inl hk
     ·refine .inr (.inl (.inl ?_))
      rcases hk with hk | hk | hk | ⟨x,hx,hk⟩
      ·exact .inl hk
      ·exact .inr (.inl hk)
      ·refine .inr (.inr (.inl ?_))
       rw[hdv4]
       cases da4 with
       | none=>exact hk
       | some a=>exact hk
      ·exact .inr (.inr (.inr (.inl ⟨x,List.mem_of_mem_take hx,hk⟩)))
     ·exact .inr (.inl (.inr (.inl (.inl hk))))
    have bz:But B4 w4 (((w5.setCell ⟨v4.r.rb,7,none⟩ (.bool true)).setCell ⟨v4.r.rb,5,none⟩ (.int .i64 v.r.sure)).drew.setCell ⟨v4.r.rb,4,none⟩ (.slice da4 v.r.Ds.length dc4)):=(But.of_below b5).trans (b8.mono (fun k _ e=>e ▸ hB4rb))
    have hs4:=hw4.size
    exact⟨wv,way,Y4,_,rfl,hEd.mono (by omega),fun k hk e=>g04 k hk (hsub k e),hw4.comp bz (fun k hk e=>g04 k hk e),hwy.go bz (fun k _ e=>hsub k e)⟩
open Go.RowKit Go.Deep
variable {Gm:Nat×Nat×Nat}
theorem append0(w:World)(pa:Option Addr)(pc:Nat):(Builtin.append_ #[60,60] 60 #[.slice none 0 0,.slice pa 0 pc]).run Tryz.prog w=.ok (.slice none 0 0) w:=by
 obtain⟨i5,hi5,hz5,hs5,hb5⟩:=info_parts info150
 cases pa with
 | none=>simp[Builtin.append_,run_underlying Tryz.underlying60,sizeOf,typeInfo,hi5,Builtin.lenOf,Builtin.firstCells]
 | some a=>simp[Builtin.append_,run_underlying Tryz.underlying60,sizeOf,typeInfo,hi5,Builtin.lenOf,Builtin.firstCells,loadCells,loadCellsFrom]
theorem lives_any{ob:Nat}(h0:Lvs Gm B w ob M w)(hS:Scr Q w sa As)(hQB:∀k,Q k->¬B k)(hQl:∀k,Q k->k<w.heap.size)(hM:M+As.length+2<=268435455)(live:Bool) :
  Calls Tryz.prog 18 #[.pointer (some ⟨ob,0,none⟩),.slice sa As.length sc,.bool live] w (LivP Gm B w ob (M+As.length+1)):=by
 obtain⟨PO,hPO⟩:∃PO:Ending->World->Prop,PO=LivP Gm B w ob (M+As.length+1):=⟨_,rfl⟩
 rw[<- hPO]
 obtain⟨N,hN⟩:∃N,N=As.length:=⟨_,rfl⟩
 rw[<- hN]at hPO hM ⊢
 obtain⟨i5,hi5,hz5,hs5,hb5⟩:=info_parts info150
 have hScr:∀wo,But B w wo->Scr Q wo sa As:=fun wo b=>hS.but (b.mono (fun k _ e hq=>hQB k hq e))
 have HR:Hid (∀(wo:World) (i:Nat) (q:Aw),Lvs Gm B w ob (M+i) wo->As[i]?=some q->(∃b off,sa=some ⟨b,off,none⟩/\wo.cell? ⟨b,off+i * 6,none⟩=some (.int .i64 q.wh)/\wo.cell? ⟨b,off+i * 6+1,none⟩=some (.int .i64 q.kd)/\wo.cell? ⟨b,off+i * 6+2,none⟩=some (.int .i64 q.tx)/\wo.cell? ⟨b,off+i * 6+3,none⟩=some (.int .i64 q.at_)/\wo.cell? ⟨b,off+i * 6+4,none⟩=some (.int .i64 q.fl)/\wo.cell? ⟨b,off+i * 6+5,none⟩=some (.slice q.ra q.rn q.rc))/\Rnq Gm B w wo ob M i q PO):=fun wo i q hL hq=>by
  have hb:But B w wo:=by
   obtain⟨_,_,_,_,_,_,_,_,hb⟩:=hL
   exact hb
  have hi:i<N:=by rw[hN];exact (List.getElem?_eq_some_iff.1 hq).1
  exact⟨(hScr wo hb).at hq,lives_round hL (by omega) hi q ((hScr wo hb).2 q (List.mem_of_getElem? hq)) hQB hQl PO hPO⟩
 have HE1:Hid (∀wo,Lvs Gm B w ob (M+N) wo->PO (.returned (.tuple #[.slice none 0 0,.bool true])) wo):=fun wo ⟨B1,Y,v,h,hr,hB,hon,hG,hb⟩=>by
  rw[hPO]
  exact⟨_,[],Y,v,rfl,(Ed.of_rl h hr).mono (by omega),fun k hk e=>hG k hk ((hB k).2 e.ball),hb,.inl ⟨rfl,rfl⟩⟩
 have HE2:Hid (∀wo,Lvs Gm B w ob (M+N) wo->Calls Tryz.prog 45 #[.pointer (some ⟨ob,0,none⟩)] wo fun e w5=>e=.returned (.bool true)/\PO (.returned (.tuple #[.slice none 0 0,.bool true])) w5):=fun wo ⟨B1,Y,v,h,hr,hB,hon,hG,hb⟩=>by
  refine Calls.mono (h.off45 hr hB (by omega)) ?_
  rintro e w5 ⟨rfl,B5,⟨Y5,v5,d5,r5,hB5⟩,g5,c5⟩
  refine⟨rfl,?_⟩
  rw[hPO]
  have hs:=hb.size
  exact⟨_,[],Y5,v5,rfl,(Ed.of_rl d5 r5).mono (by omega),fun k hk e=>hG k hk (g5 k (by omega) ((hB5 k).2 e.ball)),hb.comp c5 (fun k hk e=>hG k hk e),.inl ⟨rfl,rfl⟩⟩
 have HAL:Hid (∀i,i<N->∃q,As[i]?=some q):=fun i hi=>⟨_,List.getElem?_eq_getElem (by omega)⟩
 have H0:=hid h0
 have hN2:N<=268435455:=by omega
 clear h0 hS hQB hQl hM hPO hScr hN
 go_enter Tryz.func18,Tryz.ntmps18
 go_wp2_with fail
 go_loopw [8] (fun iv wr=>∃(i:Nat),i<=N/\iv=.int .i64 (i:Int)/\Lvs Gm B w ob (M+i) wr) (fun iv _=>N-(intOf iv).toNat)
 case atStart=>exact⟨0,Nat.zero_le _,rfl,H0.out⟩
 case round=>
  clear H0
  rename World=>wo
  obtain⟨i,hiN,rfl,hL⟩:=hrel
  by_cases hi9:i<N
  ·obtain⟨q,hq⟩:=HAL.out i hi9
   obtain⟨⟨b,off,ea,k0,k1,k2,k3,k4,k5⟩,hR⟩:=HR.out wo i q hL hq
   have HRD:=hid hR
   have hi':(i:Int)<(N:Int):=by omega
   have kx:(wo.alloc (.cells #[.int .i64 q.wh,.int .i64 q.kd,.int .i64 q.tx,.int .i64 q.at_,.int .i64 q.fl,.slice q.ra q.rn q.rc] 42)).cell? ⟨wo.heap.size,2,none⟩=some (.int .i64 q.tx):=cell_new rfl 2 _ rfl
   subst ea
   clear hL hR hq HR HE1 HE2 HAL
   go_wp2_with fail
   refine Calls.mono HRD.out ?_
   clear k0 k1 k2 k3 k4 k5
   rintro e w1 ⟨tv,rv,WQ,rfl,k1,hway,hx⟩
   have HX:=hid hx
   clear hx HRD kx
   have HWY:=hid hway
   clear hway
   go_upto_region 7 with fail
   go_cut [61] (fun s wx=>Below w1.heap.size w1 wx/\((s=.bool false/\WQ wx (.slice none 0 0))\/(s=.bool true/\∃(g:Nat) (pa:Option Addr) (np pc:Nat),rv=.pointer (some ⟨g,0,none⟩)/\wx.cell? ⟨g,1,none⟩=some (.slice pa np pc)/\((np=0/\WQ wx (.slice none 0 0))\/(0<np/\np<=1073741823/\∃pg ps,pa=some ⟨pg,0,none⟩/\(∀j u,(puCells ps)[j]?=some u->wx.cell? ((⟨pg,0,none⟩:Addr).add j)=some u)/\(puCells ps).length=np * 2/\(∀u∈puCells ps,u.oneCell'=true)/\∀w3 g4 c4,w3.ownsRow 0 150 2 (.slice (some ⟨g4,0,none⟩) np c4) np (puCells ps)->wx.grownBy w3 none->g4=wx.heap.size->Below w1.heap.size w1 w3/\WQ w3 (.slice (some ⟨g4,0,none⟩) np c4))))))
   case first=>
    rcases HWY.out with ⟨hk,hn⟩ | ⟨hk,rfl,hn⟩ | ⟨hk,g,rfl,k3,hn⟩ | ⟨hk,g,rb,pa,np,pc,cn,bl,rfl,hc,hb1,hb2,hcl,hcase⟩
    ·have hkb:(q.kd == 8)=false:=by simpa using hk
     have HN:=hid (hn _ (Below.refl _ _).drew)
     clear hn hk HWY
     refine Gz (S:=fun w'=>w'.cell? ⟨wo.heap.size,1,none⟩=some (.int .i64 q.kd)) k1 (fun hSS=>?_)
     refine Ti 0 rfl ?_
     refine Ti 1 rfl ?_
     refine Ti 2 rfl ?_
     refine Ti 3 rfl ?_
     try simp only[Act.put,zA,zB,zC]
     refine Si 4 rfl ?_
     refine Si 5 rfl ?_
     refine Ti 6 rfl ?_
     refine Ti 7 rfl ?_
     try simp only[Act.put,zA,zB,zC]
     refine Si 8 rfl ?_
     refine Si 9 rfl ?_
     refine Si 10 rfl ?_
     refine Si 11 rfl ?_
     try simp only[Act.put,zA,zB,zC]
     refine Si 12 rfl ?_
     refine Ti 13 rfl ?_
     refine Ti 14 rfl ?_
     refine Si 15 rfl ?_
     try simp only[Act.put,zA,zB,zC]
     refine Si 16 rfl ?_
     refine Si 17 rfl ?_
     refine Si 18 rfl ?_
     refine Si 19 rfl ?_
     try simp only[Act.put,zA,zB,zC]
     refine Si 20 rfl ?_
     refine Si 21 rfl ?_
     refine Si 22 rfl ?_
     refine Si 23 rfl ?_
     try simp only[Act.put,zA,zB,zC]
     refine Si 24 rfl ?_
     refine Si 25 rfl ?_
     refine Si 26 rfl ?_
     refine Ti 27 rfl ?_
     try simp only[Act.put,zA,zB,zC]
     refine Dn ?_
     clear hSS
     go_wp2_with fail
     go_meet
     exact⟨(Below.refl _ _).drew,.inl ⟨rfl,HN.out⟩⟩
    ·have hkb:(q.kd == 8)=true:=by simpa using hk
     have HN:=hid (hn _ (Below.refl _ _).drew)
     clear hn hk HWY
     refine Gz (S:=fun w'=>w'.cell? ⟨wo.heap.size,1,none⟩=some (.int .i64 q.kd)) k1 (fun hSS=>?_)
     refine Ti 0 rfl ?_
     try simp only[Act.put,zA,zB,zC]
     refine Ti 1 rfl ?_
     refine Ti 2 rfl ?_
     refine Ti 3 rfl ?_
     refine Ti 4 rfl ?_
     try simp only[Act.put,zA,zB,zC]
     refine Ti 5 rfl ?_
     refine Ti 6 rfl ?_
     refine Ti 7 rfl ?_
     refine Si 8 rfl ?_
     try simp only[Act.put,zA,zB,zC]
     refine Si 9 rfl ?_
     refine Si 10 rfl ?_
     refine Si 11 rfl ?_
     refine Si 12 rfl ?_
     try simp only[Act.put,zA,zB,zC]
     refine Ti 13 rfl ?_
     refine Ti 14 rfl ?_
     refine Si 15 rfl ?_
     refine Si 16 rfl ?_
     try simp only[Act.put,zA,zB,zC]
     refine Si 17 rfl ?_
     refine Si 18 rfl ?_
     refine Si 19 rfl ?_
     refine Si 20 rfl ?_
     try simp only[Act.put,zA,zB,zC]
     refine Si 21 rfl ?_
     refine Si 22 rfl ?_
     refine Si 23 rfl ?_
     refine Si 24 rfl ?_
     try simp only[Act.put,zA,zB,zC]
     refine Si 25 rfl ?_
     refine Si 26 rfl ?_
     refine Ti 27 rfl ?_
     try simp only[Act.put,zA,zB,zC]
     refine Dn ?_
     clear hSS
     go_wp2_with fail
     go_meet
     exact⟨(Below.refl _ _).drew,.inl ⟨rfl,HN.out⟩⟩
    ·have hkb:(q.kd == 8)=true:=by simpa using hk
     have HN:=hid (hn _ (Below.refl _ _).drew)
     clear hn hk HWY
     refine Gz (S:=fun w'=>w'.cell? ⟨wo.heap.size,1,none⟩=some (.int .i64 q.kd)/\w'.cell? ⟨g,3,none⟩=some (.bool true)) ⟨k1,k3⟩ (fun hSS=>?_)
     refine Ti 0 rfl ?_
     refine Ti 1 rfl ?_
     try simp only[Act.put,zA,zB,zC]
     refine Ti 2 rfl ?_
     refine Ti 3 rfl ?_
     refine Ti 4 rfl ?_
     refine Ti 5 rfl ?_
     try simp only[Act.put,zA,zB,zC]
     refine Ti 6 rfl ?_
     refine Ti 7 rfl ?_
     refine Ti 8 rfl ?_
     refine Ti 9 rfl ?_
     try simp only[Act.put,zA,zB,zC]
     refine Ti 10 rfl ?_
     refine Ti 11 rfl ?_
     refine Ti 12 rfl ?_
     refine Ti 13 rfl ?_
     try simp only[Act.put,zA,zB,zC]
     refine Ti 14 rfl ?_
     refine Si 15 rfl ?_
     refine Si 16 rfl ?_
     refine Si 17 rfl ?_
     try simp only[Act.put,zA,zB,zC]
     refine Si 18 rfl ?_
     refine Si 19 rfl ?_
     refine Si 20 rfl ?_
     refine Si 21 rfl ?_
     try simp only[Act.put,zA,zB,zC]
     refine Si 22 rfl ?_
     refine Si 23 rfl ?_
     refine Si 24 rfl ?_
     refine Si 25 rfl ?_
     try simp only[Act.put,zA,zB,zC]
     refine Si 26 rfl ?_
     refine Ti 27 rfl ?_
     try simp only[Act.put,zA,zB,zC]
     refine Dn ?_
     clear hSS
     go_wp2_with fail
     go_meet
     exact⟨(Below.refl _ _).drew,.inl ⟨rfl,HN.out⟩⟩
    ·have hkb:(q.kd == 8)=true:=by simpa using hk
     have HC:=hid hc
     have HCL:=hid hcl
     have HCS:=hid hcase
     obtain⟨j1,j3,j4,j2,jb⟩:=hc w1 (Below.refl _ _)
     obtain⟨m2,hm2⟩:∃m2:Int,m2=((bl / 2:Nat):Int):=⟨_,rfl⟩
     obtain⟨m4,hm4⟩:∃m4:Int,m4=m2-4:=⟨_,rfl⟩
     have htd:(bl:Int).tdiv 2=m2:=by rw[hm2,Int.tdiv_eq_ediv_of_nonneg (by omega)];omega
     have hw1:IntKind.i64.wrap m2=m2:=by rw[IntKind.wrap_i64];omega
     have hw4:IntKind.i64.wrap (m2-4)=m4:=by rw[IntKind.wrap_i64];omega
     have HM:=hid (And.intro hm2 hm4)
     clear hc hcl hcase hk k1 j4 hm2 hm4 HWY
     refine Gz (S:=fun w'=>w'.cell? ⟨wo.heap.size,1,none⟩=some (.int .i64 q.kd)/\w'.cell? ⟨g,3,none⟩=some (.bool false)/\w'.cell? ⟨ob,2,none⟩=some (.pointer (some ⟨rb,0,none⟩))/\w'.cell? ⟨rb,2,none⟩=some (.int .i64 (bl:Int))) ⟨j1,j3,j2,jb⟩ (fun hSS=>?_)
     refine Ti 0 rfl ?_
     refine Ti 1 rfl ?_
     refine Ti 2 rfl ?_
     try simp only[Act.put,zA,zB,zC]
     refine Ti 3 rfl ?_
     refine Ti 4 rfl ?_
     refine Ti 5 rfl ?_
     refine Ti 6 rfl ?_
     try simp only[Act.put,zA,zB,zC]
     refine Ti 7 rfl ?_
     refine Ti 8 rfl ?_
     refine Ti 9 rfl ?_
     refine Ti 10 rfl ?_
     try simp only[Act.put,zA,zB,zC]
     refine Ti 11 rfl ?_
     refine Ti 12 rfl ?_
     refine Ti 13 rfl ?_
     refine Ti 14 rfl ?_
     try simp only[Act.put,zA,zB,zC]
     refine Ti 15 rfl ?_
     refine Ti 17 rfl ?_
     refine Ti 18 rfl ?_
     refine Ti 19 rfl ?_
     try simp only[Act.put,zA,zB,zC]
     refine Ti 20 rfl ?_
     refine Ti 21 rfl ?_
     refine Ti 22 rfl ?_
     refine Ti 23 rfl ?_
     try simp only[Act.put,zA,zB,zC]
     refine Ti 24 rfl ?_
     refine Ti 25 rfl ?_
     try simp only[Act.put,zA,zB,zC]
     refine Ri 16 rfl (fun K9 hK9=>?_)
     go_simp
     go_at_call 53
     refine Calls.mono HCL.out ?_
     rintro e w2 ⟨rfl,b2⟩
     obtain⟨n1,n3,n4,n2,nb⟩:=HC.out w2 b2
     refine hK9.out _ _ ⟨n1,n3,n2,nb⟩ (fun hSS=>?_)
     try simp only[Act.put,zA,zB,zC]
     refine Ti 26 rfl ?_
     refine Ti 27 rfl ?_
     try simp only[Act.put,zA,zB,zC]
     refine Dn ?_
     clear hSS HCL
     have B2:=hid b2
     have N4:=hid n4
     clear n1 n3 n4 n2 nb b2 j1 j3 j2 jb
     rcases HCS.out with ⟨hcn,hn⟩ | ⟨hcn,hz,hn⟩ | ⟨hcn,hz,hnp,pg,ps,hpa,hsrc,hlen,hone,hw⟩
     ·have hcn':¬(cn:Int)<=m4:=by have:=HM.out;omega
      have HN:=hid (hn _ B2.out)
      clear hn hcn HM HC
      go_wp2_with fail
      go_meet
      exact⟨B2.out,.inl ⟨by simp[hcn'],HN.out⟩⟩
     ·have hcn':(cn:Int)<=m4:=by have:=HM.out;omega
      have HN:=hid (hn _ B2.out)
      clear hn hcn HM HC
      go_wp2_with fail
      go_meet
      exact⟨B2.out,.inr ⟨by simp[hcn'],g,pa,np,pc,rfl,N4.out,.inl ⟨hz,HN.out⟩⟩⟩
     ·have hcn':(cn:Int)<=m4:=by have:=HM.out;omega
      have HN:=hid (And.intro (hsrc _ B2.out) (fun wx g4 c4=>hw wx w2 g4 c4 B2.out))
      clear hcn HM HC hw hsrc
      go_wp2_with fail
      go_meet
      exact⟨B2.out,.inr ⟨by simp[hcn'],g,pa,np,pc,rfl,N4.out,.inr ⟨hz,hnp,pg,ps,hpa,HN.out.1,hlen,hone,HN.out.2⟩⟩⟩
   case rest=>
    obtain⟨b9,hcs⟩:=hcut
    have HCS:=hid hcs
    clear hcs HWY k1
    go_upto_if 61 with fail
    go_cut [12] (fun s wx=>Below w1.heap.size w1 wx/\WQ wx s)
    case first=>
     rcases HCS.out with ⟨rfl,hq⟩ | ⟨rfl,g,pa,np,pc,rfl,k1,⟨rfl,hq⟩ | ⟨hz,hnp,pg,ps,rfl,hsrc,hlen,hone,hw⟩⟩
     ·have FIN:=hid (And.intro b9 hq)
      clear HCS hq
      go_wp2_with fail
      go_meet
      exact FIN.out
     ·have FIN:=hid (And.intro b9 hq)
      have happ:=append0 wc pa pc
      clear HCS hq
      go_wp2_with (at_builtin;refine Lib.wpList_append_run _ rfl _ _ _ _ rfl _ _ rfl rfl _ _ happ ?_)
      go_meet
      exact FIN.out
     ·have HSRC:=hid hsrc
      have HLEN:=hid hlen
      have HONE:=hid hone
      have HWY:=hid hw
      clear hw hsrc hlen hone HCS
      go_wp2_with (at_builtin;refine wpList_append_lies _ rfl _ _ _ rfl 0 150 i5 (.agg #[.int .i64 0,.string ByteArray.empty]) 2 24 Tryz.underlying60 hi5 hz5 hs5 hb5 rfl (by decide) _ 0 [] rfl (World.ownsRow_nil _ _ _ _) ⟨pg,0,none⟩ np pc (puCells ps) rfl HLEN.out HSRC.out HONE.out hz (by unfold maxLen;omega) (by omega) (by simp) wc.heap.size (by simp) ?_)
      intro g4 c4 w3 ho3 hg3 hl3 _
      try simp only[Nat.zero_add]at ho3 ⊢
      have hg4:g4=wc.heap.size:=hl3.elim (fun e=>by cases e) id
      have FIN:=hid (HWY.out w3 g4 c4 ho3 hg3 hg4)
      clear HWY ho3 hg3 hl3 hg4 HSRC HLEN HONE
      go_wp2_with fail
      go_meet
      exact FIN.out
    case rest=>
     obtain⟨b9,hq⟩:=hcut
     have HT:=hid (HX.out wc _ b9 hq)
     clear HX hq b9 HCS
     obtain⟨rb2,su,n0,da,dc,⟨x2,x5,x4,a0,a1,a2,a3,a4,a5⟩,hA⟩:=HT.out
     have HA:=hid hA
     clear HT hA
     go_wp2_with fail
     refine Calls.mono HA.out ?_
     rintro e w4 (⟨uu,rb4,off,p4,rfl,y2,y7,y0,hoff1,hoff2⟩ | ⟨rfl,rb4,p4,da4,dn4,dc4,y2,y7,y0,hE⟩)
     ·cases off with
      | true=>
       have FIN:=hid (hoff1 rfl)
       clear hoff1 hoff2 HA x2 x5 x4 a0 a1 a2 a3 a4 a5
       go_wp2
       exact FIN.out
      | false=>
       have H5:=hid (hoff2 rfl)
       clear hoff1 hoff2 HA x2 x5 x4 a0 a1 a2 a3 a4 a5
       go_wp2_with fail
       refine Calls.mono H5.out ?_
       rintro e w5 ⟨rfl,hl⟩
       have FIN:=hid hl
       clear hl H5
       go_wp2_with fail
       go_roundw
       case rel=>exact⟨i+1,by omega,by go_num,FIN.out⟩
       case measure=>simp[intOf];omega
     ·have HE:=hid hE
      clear hE HA x2 x5 x4 a0 a1 a2 a3 a4 a5
      go_wp2_with fail
      refine Calls.mono HE.out ?_
      rintro e w5 ⟨rfl,z2,z7,zf,hS⟩
      obtain⟨w6,hw6⟩:∃w6,w6=w5.setCell ⟨rb4,7,none⟩ (.bool true):=⟨_,rfl⟩
      obtain⟨t2,⟨old,t5⟩,tf,hS2⟩:=hS w6 hw6
      obtain⟨w7,hw7⟩:∃w7,w7=w6.setCell ⟨rb4,5,none⟩ (.int .i64 su):=⟨_,rfl⟩
      obtain⟨v2,v4,vf,hle,v2s,hF⟩:=hS2 w7 hw7
      rw[hw7,hw6]at v2 v4 vf hF v2s
      rw[hw6]at t2 t5 tf
      have FIN:=hid hF
      have hle1:(n0:Int)<=(dc4:Int):=by omega
      clear hS hS2 hw6 hw7 hF HE y2 y7 y0
      go_wp2_with fail
      refine Gz (S:=fun w'=>w'.cell? ⟨ob,2,none⟩=some (.pointer (some ⟨rb4,0,none⟩))) v2 (fun hSS=>?_)
      refine Ti 0 rfl ?_
      refine Ti 1 rfl ?_
      try simp only[Act.put,zA,zB,zC]
      refine Ti 2 rfl ?_
      refine Ti 3 rfl ?_
      refine Ti 4 rfl ?_
      refine Ti 5 rfl ?_
      try simp only[Act.put,zA,zB,zC]
      refine Ti 6 rfl ?_
      refine Ti 7 rfl ?_
      refine Ti 8 rfl ?_
      refine Ti 9 rfl ?_
      try simp only[Act.put,zA,zB,zC]
      refine Ti 11 rfl ?_
      try simp only[Act.put,zA,zB,zC]
      refine Ri 10 rfl (fun K9 hK9=>?_)
      go_simp
      refine hK9.out _ _ hSS (fun hSS=>?_)
      try simp only[Act.put,zA,zB,zC]
      refine Ti 12 rfl ?_
      refine Ti 13 rfl ?_
      refine Ti 14 rfl ?_
      try simp only[Act.put,zA,zB,zC]
      refine Ri 15 rfl (fun K9 hK9=>?_)
      go_simp
      refine hK9.out _ _ v2s (fun hSS=>?_)
      try simp only[Act.put,zA,zB,zC]
      refine Dn ?_
      clear hSS
      go_wp2
      exact FIN.out
  ·have hie:i=N:=by omega
   subst hie
   have hi':¬(i:Int)<(i:Int):=by omega
   cases live with
   | true=>
    have FIN:=hid (HE1.out wo hL)
    clear hL HR HE1 HE2 HAL
    go_wp2
    exact FIN.out
   | false=>
    have HF:=hid (HE2.out wo hL)
    clear hL HR HE1 HE2 HAL
    go_wp2_with fail
    refine Calls.mono HF.out ?_
    rintro e w5 ⟨rfl,h5⟩
    have FIN:=hid h5
    clear h5 HF
    go_wp2
    exact FIN.out
end Go.Proofs.YthfojpcibnfmgaaGreat
