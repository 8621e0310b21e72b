import Derived.Test.YtlefjidbpjkhlaaGreatK12
import Derived.Deep.RegionHeld3
set_option maxRecDepth 100000
set_option maxHeartbeats 16000000
namespace Go.Proofs.YtlefjidbpjkhlaaGreat
variable {w w':World}
variable {zs:List Int}
variable {K bl c j k n p t:Nat}
variable {X Y Z:Nat->Prop}
variable {d:Pd}
variable {s:Js}
variable {mv v:Value}
variable {a:Option Addr}
open Go.RowKit
def unZ (zs:List Int):Option (Int×Int×List Int) :=
 if zs.getD 0 0=0\/497<Pl.num ((zs.drop 1).take 2)\/1099511627776<Pl.num ((zs.drop 3).take 8) then none
 else if zeroB (zs.drop (15+(Pl.num ((zs.drop 1).take 2)).toNat))=false\/Pl.num ((zs.drop 11).take 4)≠crc (splice zs 11 [0,0,0,0]) then none
 else some (zs.getD 0 0,Pl.num ((zs.drop 3).take 8),(zs.drop 15).take (Pl.num ((zs.drop 1).take 2)).toNat)
def UnP (w:World) (o:Option (Int×Int×List Int)) (e:Ending) (w':World):Prop :=
 match o with
 | none=>∃code:Int,e=.returned (uerr code)/\code≠0
 | some (k,l,body)=>∃g,e=.returned (.tuple #[.int .i64 k,.int .i64 l,.slice (some ⟨g,0,none⟩) body.length body.length,.int .i64 0])/\w.heap.size<=g/\Blk .u8 5 w' g body/\Pl.isB body/\body.length<=497/\1<=k/\0<=l/\l<=1099511627776
theorem Unstamp_any{g cap:Nat}(ho:Own w g 512 cap zs)(hb:Pl.isB zs) :
  Calls Tryz.prog 195 #[.slice (some ⟨g,0,none⟩) 512 cap] w fun e w'=>UnP w (unZ zs) e w'/\Below w.heap.size w w':=by
 have hz:=ho.len
 have hcap:=ho.cap
 have hc:∀t,t<512->w.cell? ⟨g,0+t,none⟩=some (.int .u8 (zs.getD t 0)):=fun t ht=>by rw[Nat.zero_add];exact ho.cell t ht
 unfold unZ
 by_cases h1:zs.getD 0 0=0\/497<Pl.num ((zs.drop 1).take 2)\/1099511627776<Pl.num ((zs.drop 3).take 8)
 ·rw[if_pos h1]
  refine Calls.mono (Unstamp_head g 0 cap zs w hz hb hcap hc h1) ?_
  rintro e w' ⟨rfl,rfl⟩
  exact⟨⟨16,rfl,by decide⟩,Below.refl _ _⟩
 ·rw[if_neg h1]
  have n2:0<=Pl.num ((zs.drop 1).take 2):=Pl.num_nonneg (Pl.isB_take (Pl.isB_drop hb _) _)
  have n8:0<=Pl.num ((zs.drop 3).take 8):=Pl.num_nonneg (Pl.isB_take (Pl.isB_drop hb _) _)
  have k0:=Pl.isB_getD hb 0
  have k0':zs.getD 0 0=zs[0]?.getD 0:=by simp
  by_cases h2:zeroB (zs.drop (15+(Pl.num ((zs.drop 1).take 2)).toNat))=false\/Pl.num ((zs.drop 11).take 4)≠crc (splice zs 11 [0,0,0,0])
  ·rw[if_pos h2]
   refine Calls.mono (Unstamp_rest g 0 cap zs (zs.getD 0 0) (Pl.num ((zs.drop 3).take 8)) (Pl.num ((zs.drop 1).take 2)).toNat w hz hb ho.lt hcap hc rfl (by omega) (by omega) (by omega) rfl (by omega) h2) ?_
   rintro e w' ⟨rfl,b⟩
   refine⟨⟨_,rfl,?_⟩,b⟩
   split <;> decide
  ·rw[if_neg h2]
   have h3:zeroB (zs.drop (15+(Pl.num ((zs.drop 1).take 2)).toNat))=true:=by
    cases hq:zeroB (zs.drop (15+(Pl.num ((zs.drop 1).take 2)).toNat))
    ·exact absurd (.inl hq) h2
    ·rfl
   have h4:Pl.num ((zs.drop 11).take 4)=crc (splice zs 11 [0,0,0,0]):=Classical.byContradiction fun q=>h2 (.inr q)
   have hbl:((zs.drop 15).take (Pl.num ((zs.drop 1).take 2)).toNat).length=(Pl.num ((zs.drop 1).take 2)).toNat:=by rw[List.length_take,List.length_drop];omega
   refine Calls.mono (Unstamp_ok g 0 cap zs (zs.getD 0 0) (Pl.num ((zs.drop 3).take 8)) (Pl.num ((zs.drop 1).take 2)).toNat w hz hb ho.lt hcap hc rfl (by omega) (by omega) (by omega) rfl (by omega) h3 h4) ?_
   rintro e w' ⟨g',rfl,q1,q2,b⟩
   exact⟨⟨g',by rw[hbl],q1,q2,Pl.isB_take (Pl.isB_drop hb _) _,by rw[hbl];omega,by omega,n8,by omega⟩,b⟩
def hdZ (body:List Int):Option (Int×Int×Int) :=
 if body.length=14/\Pl.num ((body.drop 6).take 8)<=1099511627776 then some (Pl.num (body.take 3),Pl.num ((body.drop 3).take 3),Pl.num ((body.drop 6).take 8)) else none
def hdV (o:Option (Int×Int×Int)):Value :=
 match o with
 | none=>.nilIface
 | some (f,b,q)=>.iface 233 (.agg #[.int .i64 f,.int .i64 b,.int .i64 q])
theorem okW_three:okW [3,3,8]:=by
 intro x hx
 simp at hx
 rcases hx with rfl | rfl <;> rfl
theorem headOf_any{g:Nat}{body:List Int}(hB:Blk .u8 5 w g body)(hb:Pl.isB body)(hn:body.length=n) :
  Calls Tryz.prog 225 #[.slice (some ⟨g,0,none⟩) n n] w fun e w'=>e=.returned (hdV (hdZ body))/\Below w.heap.size w w':=by
 obtain⟨w1,hw1⟩:∃w1,w1=w.alloc (.cells #[.int .i64 3,.int .i64 3,.int .i64 8] 3):=⟨_,rfl⟩
 have b1:Below w.heap.size w w1:=by rw[hw1];exact (Below.refl _ _).alloc (Nat.le_refl _) _
 have z1:w1.heap.size=w.heap.size+1:=by rw[hw1];simp
 have hR:Rd w1.heap.size w1 (some ⟨g,0,none⟩) n body:=by
  have:=(Rd.of_blk hB hb hB.lt).below b1 |>.mono (B':=w1.heap.size) (by omega)
  rwa [hn]at this
 have hR2:RdI w1.heap.size w1 (some ⟨w.heap.size,0,none⟩) 3 [3,3,8]:=⟨rfl,.inr ⟨w.heap.size,0,rfl,by omega,fun t ht=>by
  rw[hw1]
  rcases t with _ | _ | _ | t
  ·exact cell_new rfl 0 _ rfl
  ·exact cell_new rfl 1 _ rfl
  ·exact cell_new rfl 2 _ rfl
  ·omega⟩⟩
 have e0:valK body [3,3,8] 0=Pl.num (body.take 3):=by simp[valK,sumW]
 have e1:valK body [3,3,8] 1=Pl.num ((body.drop 3).take 3):=by simp[valK,sumW]
 have e2:valK body [3,3,8] 2=Pl.num ((body.drop 6).take 8):=by simp[valK,sumW]
 by_cases hl:n=14
 ·subst hl
  have hlt:∀i,Pl.num ((body.drop i).take 3)<16777216:=fun i=>by
   have h:=Pl.num_lt (Pl.isB_take (Pl.isB_drop hb i) 3)
   have h2:((body.drop i).take 3).length<=3:=by simp;omega
   have h3:(256:Int) ^ ((body.drop i).take 3).length<=16777216:=by
    generalize ((body.drop i).take 3).length=m at h2
    match m,h2 with
    | 0,_=>decide
    | 1,_=>decide
    | 2,_=>decide
    | 3,_=>decide
   omega
  have l0:=hlt 0
  have l1:=hlt 3
  rw[List.drop_zero]at l0
  by_cases hv:Pl.num ((body.drop 6).take 8)<=9223372036854775807
  ·have HU:=hid (Unpack_ok (some ⟨g,0,none⟩) (some ⟨w.heap.size,0,none⟩) 14 14 3 3 body [3,3,8] w1 (by omega) (Nat.le_refl _) hR hR2 okW_three rfl (fun k hk=>by
    rcases k with _ | _ | _ | k
    ·rw[e0];omega
    ·rw[e1];omega
    ·rw[e2];exact hv
    ·omega))
   have hvs:vals body [3,3,8] 3=[Pl.num (body.take 3),Pl.num ((body.drop 3).take 3),Pl.num ((body.drop 6).take 8)]:=by simp[vals,e0,e1,e2]
   rw[hvs]at HU
   have B1:=hid b1
   obtain⟨v0,hv0⟩:∃v0,v0=Pl.num (body.take 3):=⟨_,rfl⟩
   obtain⟨v1,hv1⟩:∃v1,v1=Pl.num ((body.drop 3).take 3):=⟨_,rfl⟩
   obtain⟨v2,hv2⟩:∃v2,v2=Pl.num ((body.drop 6).take 8):=⟨_,rfl⟩
   have hh:hdZ body=if v2<=1099511627776 then some (v0,v1,v2) else none:=by
    unfold hdZ
    rw[<- hv0,<- hv1,<- hv2,hn]
    simp
   rw[hh]
   rw[<- hv0,<- hv1,<- hv2]at HU
   clear hv0 hv1 hv2 hh hvs e0 e1 e2 hlt l0 l1 hv hR hR2 b1 hb
   have HZ:=hid z1
   clear z1
   by_cases hq:v2<=1099511627776
   ·rw[if_pos hq]
    go_enter Tryz.func225,Tryz.ntmps225
    go_wp2_with fail
    rw[<- hw1]
    refine Calls.mono HU.out ?_
    rintro e w2 ⟨g2,rfl,hg2,hb2,b2⟩
    have B2:=hid (B1.out.trans (b2.mono B1.out.size))
    have c0:=hb2.cell 0 (by simp)
    have c1:=hb2.cell 1 (by simp)
    have c2:=hb2.cell 2 (by simp)
    simp at c0 c1 c2
    have hq':¬1099511627776<v2:=by omega
    clear b2 hb2 hg2 HU hw1 B1
    go_wp2_with fail
    go_region_held3 (fun w'=>w'.cell? ⟨g2,0,none⟩=some (.int .i64 v0)/\w'.cell? ⟨g2,1,none⟩=some (.int .i64 v1)/\w'.cell? ⟨g2,2,none⟩=some (.int .i64 v2)) (first | (exact⟨by assumption,by assumption,by assumption⟩) | go_keep) (fail)
    go_wp2
    go_ret
    exact⟨rfl,by simpa using B2.out.drew⟩
   ·rw[if_neg hq]
    go_enter Tryz.func225,Tryz.ntmps225
    go_wp2_with fail
    rw[<- hw1]
    refine Calls.mono HU.out ?_
    rintro e w2 ⟨g2,rfl,hg2,hb2,b2⟩
    have B2:=hid (B1.out.trans (b2.mono B1.out.size))
    have c2:=hb2.cell 2 (by simp)
    simp at c2
    have hq':1099511627776<v2:=by omega
    clear b2 hb2 hg2 HU hw1 B1 hq
    go_wp2
    go_ret
    exact⟨rfl,B2.out⟩
  ·have HU:=hid (Unpack_value (some ⟨g,0,none⟩) (some ⟨w.heap.size,0,none⟩) 14 14 3 3 body [3,3,8] w1 (by omega) (Nat.le_refl _) hR hR2 okW_three rfl ⟨2,by omega,by rw[e2];omega⟩)
   have B1:=hid b1
   have hh:hdZ body=none:=by
    unfold hdZ
    rw[if_neg (fun q=>hv (by omega))]
   rw[hh]
   clear hh e0 e1 e2 hlt l0 l1 hv hR hR2 b1 hb z1
   go_enter Tryz.func225,Tryz.ntmps225
   go_wp2_with fail
   rw[<- hw1]
   refine Calls.mono HU.out ?_
   rintro e w2 ⟨rfl,b2⟩
   have B2:=hid (B1.out.trans (b2.mono B1.out.size))
   clear b2 HU hw1 B1
   unfold perr
   go_wp2
   go_ret
   exact⟨rfl,B2.out⟩
 ·have HU:=hid (Unpack_size (some ⟨g,0,none⟩) (some ⟨w.heap.size,0,none⟩) n n 3 3 [3,3,8] w1 (by omega) hR2 okW_three (by intro q;exact hl q))
  have B1:=hid b1
  have hh:hdZ body=none:=by
   unfold hdZ
   rw[if_neg (fun q=>hl (by omega))]
  rw[hh]
  clear hh e0 e1 e2 hR hR2 b1 hb z1 hl hn hB
  go_enter Tryz.func225,Tryz.ntmps225
  go_wp2_with fail
  rw[<- hw1]
  refine Calls.mono HU.out ?_
  rintro e w2 ⟨rfl,rfl⟩
  clear HU hw1
  unfold perr
  go_wp2
  go_ret
  exact⟨rfl,B1.out⟩
def RecV (w:World) (k:Int) (body:List Int) (v:Value):Prop :=
 (k=2/\v=hdV (hdZ body))\/(k=3/\∃g,v=.iface 197 (.slice (some ⟨g,0,none⟩) body.length body.length)/\Blk .u8 5 w g body)\/(k=4/\∃g,v=.iface 198 (.slice (some ⟨g,0,none⟩) body.length body.length)/\Blk .u8 5 w g body)\/(k≠2/\k≠3/\k≠4/\v=.nilIface)
theorem recordOf_any{g:Nat}{k:Int}{body:List Int}(hB:Blk .u8 5 w g body)(hb:Pl.isB body)(hn:body.length=n) :
  Calls Tryz.prog 196 #[.int .i64 k,.slice (some ⟨g,0,none⟩) n n] w fun e w'=>∃v,e=.returned v/\RecV w' k body v/\Below w.heap.size w w':=by
 by_cases h2:k=2
 ·subst h2
  have H:=hid (headOf_any hB hb hn)
  clear hB hb hn
  generalize hv:hdV (hdZ body)=v at *
  go_enter Tryz.func196,Tryz.ntmps196
  go_wp2_with fail
  refine Calls.mono H.out ?_
  rintro e w1 ⟨rfl,b1⟩
  have FIN:=hid b1
  clear H b1
  go_wp2
  go_ret
  exact⟨v,rfl,.inl ⟨rfl,hv.symm⟩,FIN.out⟩
 ·by_cases h3:k=3
  ·subst h3
   have FIN:Hid (RecV w 3 body (.iface 197 (.slice (some ⟨g,0,none⟩) n n))):=.inr (.inl ⟨rfl,g,by rw[hn],hB⟩)
   clear hB hb hn h2
   go_enter Tryz.func196,Tryz.ntmps196
   go_wp2
   go_ret
   exact⟨_,rfl,FIN.out,Below.refl _ _⟩
  ·by_cases h4:k=4
   ·subst h4
    have FIN:Hid (RecV w 4 body (.iface 198 (.slice (some ⟨g,0,none⟩) n n))):=.inr (.inr (.inl ⟨rfl,g,by rw[hn],hB⟩))
    clear hB hb hn h2 h3
    go_enter Tryz.func196,Tryz.ntmps196
    go_wp2
    go_ret
    exact⟨_,rfl,FIN.out,Below.refl _ _⟩
   ·have FIN:Hid (RecV w k body .nilIface):=.inr (.inr (.inr ⟨h2,h3,h4,rfl⟩))
    clear hB hb hn
    go_enter Tryz.func196,Tryz.ntmps196
    go_wp2
    go_ret
    exact⟨_,rfl,FIN.out,Below.refl _ _⟩
open Go.RowKit
def RecP (w:World) (o:Option (Int×Int×List Int)) (v:Value) (life:Int):Prop :=
 match o with
 | none=>v=.nilIface/\life=0
 | some (k,l,body)=>life=l/\RecV w k body v/\Pl.isB body/\body.length<=497/\0<=l/\l<=1099511627776
theorem Jq.dread{room nb fr:Nat}(h:Jq Z w j c p room nb K fr bl d s)(hl:d.puts.length<=1073741824)(hon:d.off=false)(x:Nat)(hx:x<nb) :
  (Calls Tryz.prog 168 #[.pointer (some ⟨p,0,none⟩),.int .i64 (x:Int)] w fun e w'=>∃g cp,e=.returned (.tuple #[.slice (some ⟨g,0,none⟩) 512 cp,.int .i64 0])/\w.heap.size<=g/\Own w' g 512 cp (d.read x)/\Below w.heap.size w w')/\(d.read x).length=512/\Pl.isB (d.read x):=by
 obtain⟨Zc,m,n,D,a,h⟩:=h
 exact⟨h.cq.dread hl hon x hx,Pd.read_len h.cq x hx⟩
theorem readRecord_any{room nb fr:Nat}(h:Jq Z w j c p room nb K fr bl d s)(hl:d.puts.length<=1073741824)(hon:d.off=false)(x:Nat)(hx:x<nb) :
  Calls Tryz.prog 165 #[.pointer (some ⟨j,0,none⟩),.int .i64 (x:Int)] w fun e w'=>∃v life,e=.returned (.tuple #[v,.int .i64 life,.int .i64 0])/\RecP w' (unZ (d.read x)) v life/\Below w.heap.size w w':=by
 obtain⟨mv,hJ,hZj⟩:=h.cells
 have j0:=hJ.cell 0
 simp at j0
 obtain⟨_,c0,_⟩:=h.dk
 obtain⟨HR0,hlen,hb⟩:=h.dread hl hon x hx
 have HR:=hid HR0
 have HB:=hid hb
 clear hJ h hl hlen hb HR0
 go_enter Tryz.func165,Tryz.ntmps165
 go_wp2_with fail
 refine Calls.mono HR.out ?_
 rintro e w1 ⟨g,cp,rfl,hg,ho,b1⟩
 have HU:=hid (Unstamp_any ho HB.out)
 have B1:=hid b1
 clear hg ho b1 HR j0 c0
 go_wp2_with fail
 refine Calls.mono HU.out ?_
 rintro e w2 ⟨hu,b2⟩
 have B2:=hid (B1.out.trans (b2.mono B1.out.size))
 have hrec:∀(w':World) (v:Value) (life:Int),RecP w' (unZ (d.read x)) v life->RecP w' (unZ (d.read x)) v life:=fun _ _ _ q=>q
 cases hz:unZ (d.read x) with
 | none=>
  rw[hz]at hu
  obtain⟨code,rfl,hc⟩:=hu
  have HZ:=hid hz
  clear HU B1 b2 hrec hz HB
  unfold uerr
  go_wp2
  go_ret3
  exact⟨.nilIface,0,rfl,by rw[HZ.out];exact⟨rfl,rfl⟩,B2.out⟩
 | some r=>
  obtain⟨k,l,body⟩:=r
  rw[hz]at hu
  obtain⟨g2,rfl,q1,q2,q3,q4,q5,q6,q7⟩:=hu
  have HV:=hid (recordOf_any (k:=k) q2 q3 rfl)
  have HZ:=hid hz
  have QQ:=hid (And.intro q3 (And.intro q4 (And.intro q6 q7)))
  clear HU B1 b2 hrec hz HB q1 q2 q3 q4 q5 q6 q7
  generalize hbl:body.length=n at *
  go_wp2_with fail
  refine Calls.mono HV.out ?_
  rintro e w3 ⟨v,rfl,hv,b3⟩
  have FIN:Hid (RecP w3 (some (k,l,body)) v l/\Below w.heap.size w w3):=⟨⟨rfl,hv,QQ.out.1,by rw[hbl];exact QQ.out.2.1,QQ.out.2.2⟩,B2.out.trans (b3.mono B2.out.size)⟩
  clear hv b3 HV QQ B2
  go_wp2
  go_ret3
  exact⟨v,l,rfl,by rw[HZ.out];exact FIN.out.1,FIN.out.2⟩
open Go.RowKit
def headAt (fr bl:Nat) (zs:List Int):Option (Nat×Nat) :=
 match unZ zs with
 | some (k,l,body)=>if k=2 then match hdZ body with
  | some (f,b,q)=>if f=(fr:Int)/\b=(bl:Int) then some (l.toNat,q.toNat) else none
  | none=>none else none
 | none=>none
theorem head_cases{life:Int}(fr bl:Nat)(h:RecP w (unZ zs) v life) :
  (headAt fr bl zs=none/\((∃u,v=.iface 197 u)\/(∃u,v=.iface 198 u)\/v=.nilIface))\/∃f b q:Int,v=.iface 233 (.agg #[.int .i64 f,.int .i64 b,.int .i64 q])/\0<=life/\life<=1099511627776/\(0<=q/\q<=1099511627776)/\headAt fr bl zs=if f=(fr:Int)/\b=(bl:Int) then some (life.toNat,q.toNat) else none:=by
 unfold headAt
 cases hz:unZ zs with
 | none=>
  rw[hz]at h
  exact .inl ⟨rfl,.inr (.inr h.1)⟩
 | some r=>
  obtain⟨k,l,body⟩:=r
  rw[hz]at h
  obtain⟨rfl,hv,hb,_,h0,h1⟩:=h
  rcases hv with ⟨rfl,rfl⟩ | ⟨rfl,g,rfl,_⟩ | ⟨rfl,g,rfl,_⟩ | ⟨h2,h3,h4,rfl⟩
  ·cases hh:hdZ body with
   | none=>exact .inl ⟨by simp[hh],.inr (.inr (by simp[hdV]))⟩
   | some t=>
    obtain⟨f,b,q⟩:=t
    refine .inr ⟨f,b,q,by simp[hdV],h0,h1,?_,by simp[hh]⟩
    unfold hdZ at hh
    split at hh
    ·rename_i q1
     injection hh with hh
     injection hh with _ hh
     injection hh with _ hh
     rw[<- hh]
     exact⟨Pl.num_nonneg (Pl.isB_take (Pl.isB_drop hb _) _),q1.2⟩
    ·cases hh
  ·exact .inl ⟨by simp,.inl ⟨_,rfl⟩⟩
  ·exact .inl ⟨by simp,.inr (.inl ⟨_,rfl⟩)⟩
  ·exact .inl ⟨by simp[h2],.inr (.inr rfl)⟩
theorem assert145(u:Value)(w:World):Sem.run Tryz.prog (Instr.typeAssert (.iface 197 u) 194 233 true) w=.ok (.tuple #[.agg #[.int .i64 0,.int .i64 0,.int .i64 0],.bool false]) w:=by kernel_rfl
theorem assert146(u:Value)(w:World):Sem.run Tryz.prog (Instr.typeAssert (.iface 198 u) 194 233 true) w=.ok (.tuple #[.agg #[.int .i64 0,.int .i64 0,.int .i64 0],.bool false]) w:=by kernel_rfl
theorem assertNil(w:World):Sem.run Tryz.prog (Instr.typeAssert .nilIface 194 233 true) w=.ok (.tuple #[.agg #[.int .i64 0,.int .i64 0,.int .i64 0],.bool false]) w:=by kernel_rfl
theorem assert143(u:Value)(w:World):Sem.run Tryz.prog (Instr.typeAssert (.iface 233 u) 194 233 true) w=.ok (.tuple #[u,.bool true]) w:=by kernel_rfl
theorem cell_set_ne{t':Nat}(h:¬k=j)(v:Value):(w.setCell ⟨j,t,none⟩ v).cell? ⟨k,t',none⟩=w.cell? ⟨k,t',none⟩:=World.cell?_of_block (Below.heap_setCell _ _ _ _ h)
theorem two_34{fr bl life seq used:Int}(h:Jb w j c fr bl life seq used mv)(l q:Int):Jb ((w.drew.drew.setCell ⟨j,3,none⟩ (.int .i64 l)).setCell ⟨j,4,none⟩ (.int .i64 q)) j c fr bl l q used mv:=by
 have h0:Jb w.drew.drew j c fr bl life seq used mv:=h
 have h1:Jb (w.drew.drew.setCell ⟨j,3,none⟩ (.int .i64 l)) j c fr bl l seq used mv:=by simpa [Jb] using h0.set 3 (.int .i64 l)
 simpa [Jb] using h1.set 4 (.int .i64 q)
def FindP (Z:Nat->Prop) (w:World) (j c p room nb K fr bl:Nat) (d:Pd) (o:Option Js) (e:Ending) (w':World):Prop :=
 match o with
 | none=>e=.returned (.int .i64 41)/\(∃Z' s',Jq Z' w' j c p room nb K fr bl d s'/\Gr Z Z' w)/\But Z w w'
 | some s'=>e=.returned (.int .i64 0)/\(∃Z',Jq Z' w' j c p room nb K fr bl d s'/\Gr Z Z' w)/\But Z w w'
theorem findHead_any{room nb fr:Nat}(h:Jq Z w j c p room nb K fr bl d s)(hn:Jn nb fr bl s)(hl:d.puts.length<=1073741824)(hon:d.off=false) :
  Calls Tryz.prog 124 #[.pointer (some ⟨j,0,none⟩)] w (FindP Z w j c p room nb K fr bl d ((headAt fr bl (d.read fr)).map fun r=>⟨r.1,r.2,s.used,s.ah⟩)):=by
 obtain⟨o,ho⟩:∃o,o=(headAt fr bl (d.read fr)).map fun r=>(⟨r.1,r.2,s.used,s.ah⟩:Js):=⟨_,rfl⟩
 rw[<- ho]
 have HO:=hid ho
 clear ho
 have hfit:=hn.fit
 have hlo:=hn.lo
 obtain⟨mv,hJ,hZj⟩:=h.cells
 have j1:=hJ.cell 1
 simp at j1
 have HR:=hid (readRecord_any h hl hon fr (by omega))
 have HJ:=hid h
 clear hJ h hl hn hfit hlo hon
 go_enter Tryz.func124,Tryz.ntmps124
 go_wp2_with fail
 refine Calls.mono HR.out ?_
 rintro e w1 ⟨v,life,rfl,hrec,b1⟩
 have B1:=hid b1
 have hJ1:=HJ.out.cut.below b1
 have HJ1:=hid hJ1
 obtain⟨mv1,hJb1,_⟩:=hJ1.cells
 have k1:=hJb1.cell 1
 have k2:=hJb1.cell 2
 have k3:=hJb1.cell 3
 have k4:=hJb1.cell 4
 have f3:=hJb1.frozen 3
 have f4:=hJb1.frozen 4
 simp at k1 k2 k3 k4
 have FN:Hid (∀w',Below w1.heap.size w1 w'->FindP Z w j c p room nb K fr bl d none (.returned (.int .i64 41)) w'):=fun w' b=>⟨rfl,⟨_,s,HJ1.out.below b,fun k _ q=>q.1⟩,But.of_below (B1.out.trans (b.mono B1.out.size))⟩
 have hc:=head_cases fr bl hrec
 clear hrec b1 hJ1 HR j1
 rcases hc with ⟨hnone,⟨u,rfl⟩ | ⟨u,rfl⟩ | rfl⟩ | ⟨f,b,q,rfl,l0,l1,q1,heq⟩
 ·have hoN:o=none:=by rw[HO.out,hnone];rfl
  subst hoN
  clear hJb1 hnone HO
  go_wp2_with (simp only[assert145])
  go_region
  all_goals
   go_wp2
   go_ret
   exact FN.out _ (by simpa using ((Below.refl w1.heap.size w1).alloc (Nat.le_refl _) (.cells #[.int .i64 0,.int .i64 0,.int .i64 0] 233)).drew)
 ·have hoN:o=none:=by rw[HO.out,hnone];rfl
  subst hoN
  clear hJb1 hnone HO
  go_wp2_with (simp only[assert146])
  go_region
  all_goals
   go_wp2
   go_ret
   exact FN.out _ (by simpa using ((Below.refl w1.heap.size w1).alloc (Nat.le_refl _) (.cells #[.int .i64 0,.int .i64 0,.int .i64 0] 233)).drew)
 ·have hoN:o=none:=by rw[HO.out,hnone];rfl
  subst hoN
  clear hJb1 hnone HO
  go_wp2_with (simp only[assertNil])
  go_region
  all_goals
   go_wp2
   go_ret
   exact FN.out _ (by simpa using ((Below.refl w1.heap.size w1).alloc (Nat.le_refl _) (.cells #[.int .i64 0,.int .i64 0,.int .i64 0] 233)).drew)
 ·obtain⟨Zc,m,n,D,a,hW⟩:=HJ1.out
  obtain⟨w2,hw2⟩:∃w2,w2=w1.alloc (.cells #[.int .i64 f,.int .i64 b,.int .i64 q] 233):=⟨_,rfl⟩
  have b2:Below w1.heap.size w1 w2:=by rw[hw2];exact (Below.refl _ _).alloc (Nat.le_refl _) _
  have hW2:=hW.keep (w':=w2) (fun x _ hx=>b2.block x hx) b2.size
  have m0:w2.cell? ⟨w1.heap.size,0,none⟩=some (.int .i64 f):=by rw[hw2];exact cell_new rfl 0 _ rfl
  have m1:w2.cell? ⟨w1.heap.size,1,none⟩=some (.int .i64 b):=by rw[hw2];exact cell_new rfl 1 _ rfl
  have m2:w2.cell? ⟨w1.heap.size,2,none⟩=some (.int .i64 q):=by rw[hw2];exact cell_new rfl 2 _ rfl
  have hjl:=hW.jb.lt
  have i1:=hW2.jb.cell 1
  have i2:=hW2.jb.cell 2
  have i3:=hW2.jb.cell 3
  have i4:=hW2.jb.cell 4
  have g3:=hW2.jb.frozen 3
  have g4:=hW2.jb.frozen 4
  simp at i1 i2 i3 i4
  have HS:Hid (∀w',But (fun k=>k=j) w2 w'->Jb w' j c fr bl life q s.used (.map (some m))->FindP Z w j c p room nb K fr bl d (some ⟨life.toNat,q.toNat,s.used,s.ah⟩) (.returned (.int .i64 0)) w'):=fun w' hb hJ=>by
   have h2:=hW2.rejb (s':=⟨life.toNat,q.toNat,s.used,s.ah⟩) hb (by
    show Jb w' j c fr bl ((life.toNat:Nat):Int) ((q.toNat:Nat):Int) s.used (.map (some m))
    rw[Int.toNat_of_nonneg l0,Int.toNat_of_nonneg q1.1]
    exact hJ) rfl
   have hs1:=B1.out.size
   exact⟨rfl,⟨_,⟨Zc,m,n,D,a,h2⟩,fun k _ r=>r.1⟩,(But.of_below (B1.out.trans (b2.mono B1.out.size))).comp hb (fun k _ r=>by rw[r];exact hW.zj.1)⟩
  have HJB:=hid hW2.jb
  have HE:=hid heq
  have QQ:=hid (And.intro b2 (And.intro l0 (And.intro l1 q1)))
  clear hJb1 heq hW hW2 k1 k2 k3 k4 f3 f4 b2 HJ HJ1 B1 l0 l1 q1 hZj
  by_cases he:f=(fr:Int)/\b=(bl:Int)
  ·have hoS:o=some ⟨life.toNat,q.toNat,s.used,s.ah⟩:=by rw[HO.out,HE.out,if_pos he];rfl
   subst hoS
   obtain⟨rfl,rfl⟩:=he
   clear HO HE FN
   go_wp2_with (simp only[assert143])
   rw[<- hw2]
   go_region_held3 (fun w'=>w'.cell? ⟨w1.heap.size,0,none⟩=some (.int .i64 (fr:Int))/\w'.cell? ⟨w1.heap.size,1,none⟩=some (.int .i64 (bl:Int))/\w'.cell? ⟨j,1,none⟩=some (.int .i64 (fr:Int))/\w'.cell? ⟨j,2,none⟩=some (.int .i64 (bl:Int))) (first | (exact⟨by assumption,by assumption,by assumption,by assumption⟩) | go_keep) (fail)
   have hne:¬w1.heap.size=j:=by omega
   clear m0 m1 i1 i2 hw2
   go_wp2_with fail
   go_region_held3 (fun w'=>w'.cell? ⟨w1.heap.size,2,none⟩=some (.int .i64 q)) (first | assumption | (exact (cell_set_ne hne _).trans m2) | (exact ((cell_set_ne hne _).trans (cell_set_ne hne _)).trans m2) | go_keep) (fail)
   all_goals
    go_wp2
    go_ret
    refine HS.out _ ?_ ?_
    ·first
      | exact (((But.refl (fun y=>y=j) w2).drew.drew).setCell (p:=⟨j,3,none⟩) (show (fun y=>y=j) j from rfl) _).setCell (p:=⟨j,4,none⟩) (show (fun y=>y=j) j from rfl) _
      | exact (((But.refl (fun y=>y=j) w2).drew.drew).setCell (p:=⟨j,4,none⟩) (show (fun y=>y=j) j from rfl) _).setCell (p:=⟨j,3,none⟩) (show (fun y=>y=j) j from rfl) _
    ·first
      | exact two_34 HJB.out life q
      | exact two_43 HJB.out life q
  ·by_cases hf:f=(fr:Int)
   ·have hb:¬b=(bl:Int):=fun r=>he ⟨hf,r⟩
    have hoN:o=none:=by rw[HO.out,HE.out,if_neg he];rfl
    subst hoN
    clear HO HE he HS HJB
    subst hf
    go_wp2_with (simp only[assert143])
    rw[<- hw2]
    go_region_held3 (fun w'=>w'.cell? ⟨w1.heap.size,0,none⟩=some (.int .i64 (fr:Int))/\w'.cell? ⟨w1.heap.size,1,none⟩=some (.int .i64 b)/\w'.cell? ⟨j,1,none⟩=some (.int .i64 (fr:Int))/\w'.cell? ⟨j,2,none⟩=some (.int .i64 (bl:Int))) (first | (exact⟨by assumption,by assumption,by assumption,by assumption⟩) | go_keep) (fail)
    go_wp2
    go_ret
    exact FN.out _ (by simpa using QQ.out.1.drew)
   ·have hoN:o=none:=by rw[HO.out,HE.out,if_neg he];rfl
    subst hoN
    clear HO HE he HS HJB
    go_wp2_with (simp only[assert143])
    rw[<- hw2]
    go_region_held3 (fun w'=>w'.cell? ⟨w1.heap.size,0,none⟩=some (.int .i64 f)/\w'.cell? ⟨w1.heap.size,1,none⟩=some (.int .i64 b)/\w'.cell? ⟨j,1,none⟩=some (.int .i64 (fr:Int))/\w'.cell? ⟨j,2,none⟩=some (.int .i64 (bl:Int))) (first | (exact⟨by assumption,by assumption,by assumption,by assumption⟩) | go_keep) (fail)
    go_wp2
    go_ret
    exact FN.out _ (by simpa using QQ.out.1.drew)
open Go.RowKit
structure Pm where
 at_:Int
 ad:Option Addr
 cap:Nat
 data:List Int
def Pm.val (p:Pm):Value:=.agg #[.int .i64 p.at_,.slice p.ad p.data.length p.cap]
def RdP (X:Nat->Prop) (w:World) (a:Option Addr) (ps:List Pm):Prop :=
 (∀p∈ps,RdN X w p.ad p.data.length p.data)/\(ps=[]\/∃b off,a=some ⟨b,off,none⟩/\b<w.heap.size/\¬X b/\∀t p,ps[t]?=some p->w.cell? ⟨b,off+t * 2,none⟩=some (.int .i64 p.at_)/\w.cell? ⟨b,off+t * 2+1,none⟩=some (.slice p.ad p.data.length p.cap))
theorem RdP.but{ps:List Pm}(h:RdP X w a ps)(hb:But Y w w')(hy:∀k,k<w.heap.size->Y k->X k)(X':Nat->Prop)(hx:∀k,k<w.heap.size->X' k->X k):RdP X' w' a ps:=by
 obtain⟨h1,h2⟩:=h
 refine⟨fun p hp=>?_,?_⟩
 ·obtain⟨q1,q2,q3⟩:=h1 p hp
  refine⟨q1,q2,?_⟩
  rcases q3 with q3 | ⟨b,off,q4,q5,q6,q7⟩
  ·exact .inl q3
  ·exact .inr ⟨b,off,q4,Nat.lt_of_lt_of_le q5 hb.size,fun q=>q6 (hx b q5 q),fun t ht=>(hb.cell (p:=⟨b,off+t,none⟩) q5 (fun q=>q6 (hy b q5 q))).trans (q7 t ht)⟩
 ·rcases h2 with h2 | ⟨b,off,q4,q5,q6,q7⟩
  ·exact .inl h2
  ·refine .inr ⟨b,off,q4,Nat.lt_of_lt_of_le q5 hb.size,fun q=>q6 (hx b q5 q),fun t p hp=>?_⟩
   obtain⟨c1,c2⟩:=q7 t p hp
   exact⟨(hb.cell (p:=⟨b,off+t * 2,none⟩) q5 (fun q=>q6 (hy b q5 q))).trans c1,(hb.cell (p:=⟨b,off+t * 2+1,none⟩) q5 (fun q=>q6 (hy b q5 q))).trans c2⟩
def putC (nb fr bl:Nat) (at_:Int) (n:Nat):Int:=if homeC nb fr bl at_≠0 then homeC nb fr bl at_ else if n≠512 then 43 else 0
theorem putC_zero{nb fr:Nat}{at_:Int}(h:putC nb fr bl at_ n=0):n=512/\0<=at_/\at_<nb/\¬((fr:Int)<=at_/\at_<fr+bl):=by
 unfold putC at h
 by_cases hh:homeC nb fr bl at_=0
 ·rw[if_neg (fun q=>q hh)]at h
  by_cases hn:n=512
  ·refine⟨hn,?_⟩
   unfold homeC at hh
   by_cases q:at_<0\/(nb:Int)<=at_\/((fr:Int)<=at_/\at_<fr+bl)
   ·rw[if_pos q]at hh
    cases hh
   ·exact⟨by omega,by omega,fun r=>q (.inr (.inr r))⟩
  ·rw[if_pos hn]at h
   cases h
 ·rw[if_pos hh]at h
  exact absurd h hh
theorem checkPut_any{room nb fr:Nat}(h:Jq Z w j c p room nb K fr bl d s)(h1:fr+bl<=nb)(at_:Int)(ad:Option Addr)(n cp:Nat) :
  Calls Tryz.prog 77 #[.pointer (some ⟨j,0,none⟩),.agg #[.int .i64 at_,.slice ad n cp]] w fun e w'=>e=.returned (.int .i64 (putC nb fr bl at_ n))/\Below w.heap.size w w':=by
 obtain⟨w1,hw1⟩:∃w1,w1=w.alloc (.cells #[.int .i64 at_,.slice ad n cp] 144):=⟨_,rfl⟩
 have b1:Below w.heap.size w w1:=by rw[hw1];exact (Below.refl _ _).alloc (Nat.le_refl _) _
 have hnb:=h.fits.2.2
 have hJ1:=h.below b1
 obtain⟨mv,hJ,_⟩:=hJ1.cells
 obtain⟨hD,c0,hcl⟩:=hJ1.dk
 have HH:=hid (jcheckHome_any hJ c0 hD (by omega) (by omega) (by omega) (by omega) at_)
 have B1:=hid b1
 have z1:w1.heap.size=w.heap.size+1:=by rw[hw1];simp
 have m1:w1.cell? ⟨w.heap.size,1,none⟩=some (.slice ad n cp):=by rw[hw1];exact cell_new rfl 1 _ rfl
 have hz:=hid z1
 clear hJ hJ1 hD c0 hcl b1 h h1 hnb z1
 unfold putC
 generalize homeC nb fr bl at_=hc at *
 by_cases e1:hc=0
 ·subst e1
  by_cases e2:n=512
  ·subst e2
   go_enter Tryz.func77,Tryz.ntmps77
   go_wp2_with fail
   rw[<- hw1]
   refine Calls.mono HH.out ?_
   rintro e w2 ⟨rfl,b2⟩
   have k1:=(b2.cell (p:=⟨w.heap.size,1,none⟩) (by have:=hz.out;show w.heap.size<_;omega)).trans m1
   have FIN:=hid (B1.out.trans (b2.mono B1.out.size))
   clear b2 HH hw1 B1 m1
   go_wp2
   go_ret
   exact⟨by simp,FIN.out⟩
  ·have e2':¬(n:Int)=512:=by omega
   go_enter Tryz.func77,Tryz.ntmps77
   go_wp2_with fail
   rw[<- hw1]
   refine Calls.mono HH.out ?_
   rintro e w2 ⟨rfl,b2⟩
   have k1:=(b2.cell (p:=⟨w.heap.size,1,none⟩) (by have:=hz.out;show w.heap.size<_;omega)).trans m1
   have FIN:=hid (B1.out.trans (b2.mono B1.out.size))
   clear b2 HH hw1 B1 m1
   go_wp2
   go_ret
   exact⟨by simp,FIN.out⟩
 ·go_enter Tryz.func77,Tryz.ntmps77
  go_wp2_with fail
  rw[<- hw1]
  refine Calls.mono HH.out ?_
  rintro e w2 ⟨rfl,b2⟩
  have FIN:=hid (B1.out.trans (b2.mono B1.out.size))
  clear b2 HH hw1 B1 m1
  go_wp2
  go_ret
  exact⟨by simp,FIN.out⟩
end Go.Proofs.YtlefjidbpjkhlaaGreat
