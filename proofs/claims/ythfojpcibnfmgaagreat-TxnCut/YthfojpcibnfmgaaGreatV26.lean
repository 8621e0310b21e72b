import Derived.Test.YthfojpcibnfmgaaGreatV25
set_option maxRecDepth 100000
set_option maxHeartbeats 16000000
namespace Go.Proofs.YthfojpcibnfmgaaGreat
variable {d:Pd}
variable {L bl fr i k l nb q y:Nat}
variable {zs:List Int}
variable {rs:List (Int×List Int)}
variable {α:Type}
open Go.RowKit
def Pd.poss (d:Pd) (x:Nat) (zs:List Int):Prop:=zs=imgB d.img x\/(x,zs)∈d.puts
theorem seen_poss(img:List Int)(puts:List (Nat×List Int))(x:Nat):seenZ img puts x=imgB img x\/(x,seenZ img puts x)∈puts:=by
 show puts.foldl (fun s q=>if q.1=x then q.2 else s) (imgB img x)=imgB img x\/(x,puts.foldl (fun s q=>if q.1=x then q.2 else s) (imgB img x))∈puts
 generalize imgB img x=a
 induction puts generalizing a with
 | nil=>exact .inl rfl
 | cons q r ih=>
  simp only[List.foldl_cons]
  by_cases e:q.1=x
  ·rw[if_pos e]
   rcases ih q.2 with h | h
   ·rw[h,<- e]
    exact .inr (by simp)
   ·exact .inr (by simp[h])
  ·rw[if_neg e]
   rcases ih a with h | h
   ·exact .inl h
   ·exact .inr (by simp[h])
theorem Pd.poss_read(d:Pd)(x:Nat):d.poss x (d.read x):=seen_poss d.img d.puts x
theorem Pd.wr_ok(h:(d.run1 (.wr y zs)).1=0):(d.run1 (.wr y zs)).2=⟨d.img,d.puts++[(y,zs)],burnF d.fu,false⟩:=by
 have e:d.run1 (.wr y zs)=if d.off=false/\d.fu≠0 then (0,⟨d.img,d.puts++[(y,zs)],burnF d.fu,false⟩) else (24,⟨d.img,d.puts,d.fu,true⟩):=rfl
 rw[e]at h ⊢
 split
 ·rfl
 ·rename_i q
  rw[if_neg q]at h
  cases h
theorem Pd.fl_ok(h:(d.run1 .fl).1=0):(d.run1 .fl).2=⟨flushZ d.img d.puts,[],burnF d.fu,false⟩:=by
 have e:d.run1 .fl=if d.off=false/\d.fu≠0 then (0,⟨flushZ d.img d.puts,[],burnF d.fu,false⟩) else (24,⟨d.img,d.puts,d.fu,true⟩):=rfl
 rw[e]at h ⊢
 split
 ·rfl
 ·rename_i q
  rw[if_neg q]at h
  cases h
theorem Pd.poss_wr(h:(d.run1 (.wr y zs)).1=0)(x:Nat)(v:List Int):(d.run1 (.wr y zs)).2.poss x v ↔ d.poss x v\/(x=y/\v=zs):=by
 rw[Pd.wr_ok h]
 unfold Pd.poss
 simp only[List.mem_append,List.mem_singleton,Prod.mk.injEq]
 constructor
 ·rintro (q | q | q)
  ·exact .inl (.inl q)
  ·exact .inl (.inr q)
  ·exact .inr q
 ·rintro ((q | q) | q)
  ·exact .inl q
  ·exact .inr (.inl q)
  ·exact .inr (.inr q)
theorem Pd.read_wr(h:(d.run1 (.wr y zs)).1=0)(x:Nat):(d.run1 (.wr y zs)).2.read x=if y=x then zs else d.read x:=by
 rw[Pd.wr_ok h]
 exact seen_push d.img d.puts y zs x
theorem Pd.read_fl(hf:d.Fits nb)(h:(d.run1 .fl).1=0)(x:Nat):(d.run1 .fl).2.read x=d.read x:=by
 rw[Pd.fl_ok h]
 exact flush_seen d.puts d.img hf.1 hf.2.2
theorem Pd.poss_fl(hf:d.Fits nb)(h:(d.run1 .fl).1=0)(x:Nat)(v:List Int):(d.run1 .fl).2.poss x v ↔ v=d.read x:=by
 rw[Pd.fl_ok h]
 unfold Pd.poss
 rw[flush_seen d.puts d.img hf.1 hf.2.2]
 constructor
 ·rintro (q | q)
  ·exact q
  ·cases q
 ·exact .inl
theorem Pd.Fits.run1(hf:d.Fits nb){c:Cmd}(hc:c.Ok nb):(d.run1 c).2.Fits nb:=by
 rcases d.run1_code c with ⟨h1,_⟩ | ⟨_,h2⟩
 ·rcases c.both with ⟨x,zs,rfl⟩ | rfl
  ·skip
   rw[Pd.wr_ok h1]
   refine⟨hf.1,hf.2.1,fun q hq=>?_⟩
   rcases List.mem_append.1 hq with hq | hq
   ·exact hf.2.2 q hq
   ·simp at hq
    subst hq
    exact hc
  ·skip
   rw[Pd.fl_ok h1]
   refine⟨?_,?_,fun q hq=>by cases hq⟩
   ·show (flushZ d.img d.puts).length=_
    have:∀(ps:List (Nat×List Int)) (im:List Int),im.length=512 * nb->Fit nb ps->(flushZ im ps).length=512 * nb:=by
     intro ps
     induction ps with
     | nil=>intro im h _;exact h
     | cons q r ih=>
      intro im h hq
      have f:=hq q (by simp)
      exact ih _ (by rw[length_splice _ _ _ (by omega)];exact h) (fun q' h'=>hq q' (by simp[h']))
    exact this _ _ hf.1 hf.2.2
   ·show Pl.isB (flushZ d.img d.puts)
    have:∀(ps:List (Nat×List Int)) (im:List Int),Pl.isB im->Fit nb ps->Pl.isB (flushZ im ps):=by
     intro ps
     induction ps with
     | nil=>intro im h _;exact h
     | cons q r ih=>
      intro im h hq
      exact ih _ (isB_splice h (hq q (by simp)).2.2 _) (fun q' h'=>hq q' (by simp[h']))
    exact this _ _ hf.2.1 hf.2.2
 ·rw[h2]
  exact hf
theorem Pd.poss_crash(hf:d.Fits nb)(ks:List Int)(hk:∀k∈ks,0<=k/\k<(d.puts.length:Int))(x:Nat):d.poss x (imgB (crashZ d.img d.puts ks) x)/\(crashZ d.img d.puts ks).length=512 * nb:=by
 have:∀(ks:List Int) (im:List Int),(∀k∈ks,0<=k/\k<(d.puts.length:Int))->im.length=512 * nb->(imgB im x=imgB d.img x\/(x,imgB im x)∈d.puts)->(imgB (ks.foldl (layP d.puts) im) x=imgB d.img x\/(x,imgB (ks.foldl (layP d.puts) im) x)∈d.puts)/\(ks.foldl (layP d.puts) im).length=512 * nb:=by
  intro ks
  induction ks with
  | nil=>intro im _ h1 h2;exact⟨h2,h1⟩
  | cons k ks ih=>
   intro im hk h1 h2
   obtain⟨k0,k1⟩:=hk k (by simp)
   have hm:d.puts.getD k.toNat (0,[])∈d.puts:=by
    rw[List.getD_eq_getElem?_getD,List.getElem?_eq_getElem (by omega)]
    exact List.getElem_mem _
   generalize hq:d.puts.getD k.toNat (0,[])=q at hm
   have f:=hf.2.2 q hm
   have e:layP d.puts im k=splice im (q.1 * 512) q.2:=by unfold layP;rw[hq]
   refine ih (layP d.puts im k) (fun k' h'=>hk k' (by simp[h'])) (by rw[e,length_splice _ _ _ (by omega)];exact h1) ?_
   rw[e,imgB_splice x h1 f.2.1 f.1]
   by_cases ex:x=q.1
   ·rw[if_pos ex,ex]
    exact .inr hm
   ·rw[if_neg ex]
    exact h2
 exact this ks d.img hk hf.1 (.inl rfl)
theorem poss_new(I:List Int)(fu:Int)(off:Bool)(x:Nat)(v:List Int):(⟨I,[],fu,off⟩:Pd).poss x v ↔ v=imgB I x:=by
 unfold Pd.poss
 constructor
 ·rintro (q | q)
  ·exact q
  ·cases q
 ·exact .inl
open Go.RowKit
theorem stampZ_eq(k l:Int)(body:List Int):stampZ k l body=(k :: (Pl.dig (body.length:Int) 2++Pl.dig l 8))++(Pl.dig (crc (bareZ k l body)) 4++(body++zeros (497-body.length))):=by
 unfold stampZ
 generalize crc (bareZ k l body)=C
 simp[bareZ,splice,Pl.dig]
theorem stampZ_bare(k l:Int)(body:List Int):splice (stampZ k l body) 11 [0,0,0,0]=bareZ k l body:=by
 unfold stampZ
 generalize crc (bareZ k l body)=C
 simp[bareZ,splice,Pl.dig]
theorem zeroB_zeros(n:Nat):zeroB (zeros n)=true:=by
 simp[zeroB,zeros]
theorem unZ_stampZ{k l:Int}{body:List Int}(hk:1<=k)(hl:0<=l/\l<=1099511627776)(hb:body.length<=497)(hB:Pl.isB (bareZ k l body)):unZ (stampZ k l body)=some (k,l,body):=by
 have e:=stampZ_eq k l body
 have hc:=crc_bd hB
 have hbr:=stampZ_bare k l body
 generalize hC:crc (bareZ k l body)=C at *
 have l2:=Pl.length_dig (body.length:Int) 2
 have l8:=Pl.length_dig l 8
 have l4:=Pl.length_dig C 4
 have n2:=Pl.num_dig (body.length:Int) 2 (by omega) (by omega)
 have n8:=Pl.num_dig l 8 hl.1 (by rw[Pl.pow8];omega)
 have n4:=Pl.num_dig C 4 hc.1 (by omega)
 generalize Pl.dig (body.length:Int) 2=d2 at *
 generalize Pl.dig l 8=d8 at *
 generalize Pl.dig C 4=d4 at *
 have q0:(stampZ k l body).getD 0 0=k:=by rw[e];rfl
 have q2:((stampZ k l body).drop 1).take 2=d2:=by
  rw[e]
  show ((d2++d8)++_).take 2=d2
  rw[List.append_assoc,List.take_left' l2]
 have q8:((stampZ k l body).drop 3).take 8=d8:=by
  rw[e]
  show (((d2++d8)++_).drop 2).take 8=d8
  rw[List.append_assoc,List.drop_left' l2,List.take_left' l8]
 have q4:((stampZ k l body).drop 11).take 4=d4:=by
  rw[e,List.drop_left' (by simp[l2,l8]),List.take_left' l4]
 have q15:(stampZ k l body).drop 15=body++zeros (497-body.length):=by
  rw[e,<- List.append_assoc,List.drop_left' (by simp[l2,l8,l4])]
 unfold unZ
 rw[q0,q2,q8,q4,n2,n8,n4,hbr,hC,if_neg (by omega)]
 rw[<- List.drop_drop,q15,Int.toNat_natCast,List.drop_left' rfl,zeroB_zeros,if_neg (by simp),List.take_left' rfl]
open Go.RowKit
theorem unZ_some{k l:Int}{body:List Int}(h:unZ zs=some (k,l,body)):zs.getD 0 0=k/\Pl.num ((zs.drop 3).take 8)=l/\l<=1099511627776:=by
 unfold unZ at h
 split at h
 ·cases h
 ·rename_i q
  split at h
  ·cases h
  ·simp only[Option.some.injEq,Prod.mk.injEq]at h
   exact⟨h.1,h.2.1,by rw[<- h.2.1];omega⟩
theorem len_packH(fr bl q:Nat):(headB fr bl q).length=14:=by simp[headB,packZ,Pl.dig]
theorem unZ_head(hl:l<=1099511627776):unZ (headZ fr bl l q)=some (2,(l:Int),headB fr bl q) :=
 unZ_stampZ (by decide) ⟨by omega,by omega⟩ (by rw[len_packH];decide) (isB_bare (by decide) (isB_packZ _))
theorem unZ_blank(fr bl:Nat):unZ (blankZ fr bl)=some (1,0,blankB fr bl) :=
 unZ_stampZ (by decide) ⟨by decide,by decide⟩ (by simp[blankB,packZ,Pl.dig]) (isB_bare (by decide) (isB_packZ _))
theorem hdZ_head(h1:fr<=524288)(h2:bl<=524288)(h3:q<=1099511627776):hdZ (headB fr bl q)=some ((fr:Int),(bl:Int),(q:Int)):=by
 have e:headB fr bl q=Pl.dig (fr:Int) 3++(Pl.dig (bl:Int) 3++Pl.dig (q:Int) 8):=by simp[headB,packZ]
 have l1:=Pl.length_dig (fr:Int) 3
 have l2:=Pl.length_dig (bl:Int) 3
 have l3:=Pl.length_dig (q:Int) 8
 have n1:=Pl.num_dig (fr:Int) 3 (by omega) (by omega)
 have n2:=Pl.num_dig (bl:Int) 3 (by omega) (by omega)
 have n3:=Pl.num_dig (q:Int) 8 (by omega) (by rw[Pl.pow8];omega)
 have hL:=len_packH fr bl q
 generalize Pl.dig (fr:Int) 3=d1 at *
 generalize Pl.dig (bl:Int) 3=d2 at *
 generalize Pl.dig (q:Int) 8=d3 at *
 have q1:(headB fr bl q).take 3=d1:=by rw[e,List.take_left' l1]
 have q2:((headB fr bl q).drop 3).take 3=d2:=by rw[e,List.drop_left' l1,List.take_left' l2]
 have q3:((headB fr bl q).drop 6).take 8=d3:=by
  rw[e,<- List.append_assoc,List.drop_left' (by simp[l1,l2])]
  exact List.take_of_length_le (by omega)
 unfold hdZ
 rw[q1,q2,q3,n1,n2,n3,hL,if_pos ⟨rfl,by omega⟩]
theorem headAt_head(h1:fr<=524288)(h2:bl<=524288)(h3:q<=1099511627776)(hl:l<=1099511627776):headAt fr bl (headZ fr bl l q)=some (l,q):=by
 unfold headAt
 rw[unZ_head hl]
 simp only
 rw[if_pos trivial,hdZ_head h1 h2 h3]
 simp
def Old (fr bl L:Nat) (v:List Int):Prop:=v=blankZ fr bl\/(∀k l b,unZ v=some (k,l,b)->k≠1/\k≠2/\l<(L:Int))
theorem Old.foreign{v:List Int}(h:Old fr bl L v):(!decide (v=blankZ fr bl) && foreign L v)=false:=by
 rcases h with h | h
 ·simp[h]
 ·cases hu:unZ v with
  | none=>simp[Go.Proofs.YthfojpcibnfmgaaGreat.foreign,hu]
  | some r=>
   obtain⟨k,l,b⟩:=r
   obtain⟨h1,h2,h3⟩:=h k l b hu
   obtain⟨u1,u2,u3⟩:=unZ_some hu
   unfold Go.Proofs.YthfojpcibnfmgaaGreat.foreign toCome
   rw[u1,u2]
   have:¬((L:Int)<l):=by omega
   simp[h1,h2,this]
theorem Old.mono{L':Nat}{v:List Int}(h:Old fr bl L v)(hl:L<=L'):Old fr bl L' v:=by
 rcases h with h | h
 ·exact .inl h
 ·exact .inr (fun k l b q=>⟨(h k l b q).1,(h k l b q).2.1,by have:=(h k l b q).2.2;omega⟩)
theorem Old.not{v:List Int}(h:Old fr bl L v)(h0:L≠0){k l:Int}{b:List Int}(hu:unZ v=some (k,l,b)):l≠(L:Int):=by
 rcases h with h | h
 ·rw[h,unZ_blank]at hu
  simp only[Option.some.injEq,Prod.mk.injEq]at hu
  omega
 ·have:=(h k l b hu).2.2
  omega
theorem rec_old{L':Nat}{k:Int}{b:List Int}(hk:k=3\/k=4)(hL:L<=1099511627776)(hl:L<L')(hb:b.length<=497)(hB:Pl.isB b):Old fr bl L' (stampZ k (L:Int) b):=by
 refine .inr (fun k' l' b' h=>?_)
 rw[unZ_stampZ (by omega) ⟨by omega,by omega⟩ hb (isB_bare (by omega) hB)]at h
 simp only[Option.some.injEq,Prod.mk.injEq]at h
 omega
theorem rec_foreign{k:Int}{b:List Int}(hk:k=3\/k=4)(hL:L<=1099511627776)(hb:b.length<=497)(hB:Pl.isB b):foreign L (stampZ k (L:Int) b)=false:=by
 have hu:=unZ_stampZ (k:=k) (l:=(L:Int)) (body:=b) (by omega) ⟨by omega,by omega⟩ hb (isB_bare (by omega) hB)
 obtain⟨u1,u2,u3⟩:=unZ_some hu
 unfold foreign toCome
 rw[u1,u2]
 have h1:k≠1:=by omega
 have h2:k≠2:=by omega
 simp[h1,h2]
theorem pieces_flat(zs:List Int)(n:Nat):((List.range n).map fun i=>(zs.drop (497 * i)).take 497).flatten=zs.take (497 * n):=by
 induction n with
 | zero=>simp
 | succ n ih=>
  rw[List.range_succ,List.map_append,List.flatten_append,ih]
  simp only[List.map_cons,List.map_nil,List.flatten_cons,List.flatten_nil,List.append_nil]
  rw[show 497 * (n+1)=497 * n+497 by omega,List.take_add]
theorem recs_flat(zs:List Int):((List.range (pieceN zs.length)).map fun i=>(zs.drop (497 * i)).take 497).flatten++zs.drop (497 * pieceN zs.length)=zs:=by
 rw[pieces_flat,List.take_append_drop]
theorem recs_ok(hB:Pl.isB zs):∀r∈recsZ zs,(r.1=3\/r.1=4)/\r.2.length<=497/\Pl.isB r.2:=by
 intro r hr
 unfold recsZ at hr
 rcases List.mem_append.1 hr with hr | hr
 ·obtain⟨i,_,rfl⟩:=List.mem_map.1 hr
  exact⟨.inl rfl,by rw[List.length_take];omega,Pl.isB_take (Pl.isB_drop hB _) _⟩
 ·simp at hr
  subst hr
  refine⟨.inr rfl,?_,Pl.isB_drop hB _⟩
  simp only[List.length_drop]
  unfold pieceN
  omega
open Go.RowKit
theorem putK_shift{a rest:List Int}(ha:a.length=515)(i:Nat):putK (a++rest) (i+1)=putK rest i:=by
 unfold putK
 rw[show 515 * (i+1)=515+515 * i by omega,show 515+515 * i+3=515+(515 * i+3) by omega,<- List.drop_drop,<- List.drop_drop,List.drop_left' ha]
theorem putsZ_bytesZ{ps:List (Nat×List Int)}(h:∀p∈ps,p.1<16777216/\p.2.length=512):putsZ (bytesZ ps)=ps:=by
 induction ps with
 | nil=>rfl
 | cons p ps ih=>
  obtain⟨h1,h2⟩:=h p (by simp)
  have ih':=ih (fun q hq=>h q (by simp[hq]))
  have hl:=length_bytesZ (ps:=ps) (fun q hq=>(h q (by simp[hq])).2)
  have e:bytesZ (p :: ps)=(Pl.dig (p.1:Int) 3++p.2)++bytesZ ps:=by simp[bytesZ,packZ]
  have l3:=Pl.length_dig (p.1:Int) 3
  have n3:=Pl.num_dig (p.1:Int) 3 (by omega) (by omega)
  unfold putsZ
  rw[e]
  have hL:((Pl.dig (p.1:Int) 3++p.2)++bytesZ ps).length / 515=ps.length+1:=by
   rw[List.length_append,List.length_append,l3,h2,hl]
   omega
  rw[hL,List.range_succ_eq_map,List.map_cons,List.map_map]
  have h0:putK ((Pl.dig (p.1:Int) 3++p.2)++bytesZ ps) 0=p:=by
   unfold putK
   simp only[Nat.mul_zero,Nat.zero_add,List.drop_zero]
   rw[List.append_assoc,List.take_left' l3,n3,List.drop_left' l3,List.take_left' h2]
   simp
  rw[h0]
  congr 1
  have hs:(putK ((Pl.dig (p.1:Int) 3++p.2)++bytesZ ps) ∘ Nat.succ)=putK (bytesZ ps):=by
   funext i
   exact putK_shift (by rw[List.length_append,l3,h2]) i
  rw[hs]
  have:(bytesZ ps).length / 515=ps.length:=by rw[hl];omega
  rw[<- this]
  exact ih'
def Says (L:Nat) (r:Int×List Int) (b:List Int):Prop:=unZ b=some (r.1,(L:Int),r.2)
def Other (L:Nat) (b:List Int):Prop:=∀k l c,unZ b=some (k,l,c)->l≠(L:Int)
theorem Says.not{r:Int×List Int}{b:List Int}(h:Says L r b):¬Other L b:=fun q=>q _ _ _ h rfl
theorem logScan_other{rd:Nat->List Int}{found:List Int}{s:Js}(h:Other s.life (rd (fr+1+i)))(k:Nat):logScan nb fr bl rd k i found s=s:=by
 cases k with
 | zero=>rfl
 | succ k=>
  unfold logScan
  cases hu:unZ (rd (fr+1+i)) with
  | none=>rfl
  | some r=>
   obtain⟨kd,l,c⟩:=r
   simp only
   rw[if_pos (.inl (h _ _ _ hu))]
theorem logScan_piece{rd:Nat->List Int}{found b:List Int}{s:Js}(h0:s.life≠0)(h:Says s.life (3,b) (rd (fr+1+i)))(k:Nat):logScan nb fr bl rd (k+1) i found s=logScan nb fr bl rd k (i+1) (found++b) s:=by
 conv=>lhs;unfold logScan
 unfold Says at h
 rw[h]
 simp only
 rw[if_neg (by omega),if_pos trivial]
theorem logScan_last{rd:Nat->List Int}{found b:List Int}{s:Js}(h0:s.life≠0)(h:Says s.life (4,b) (rd (fr+1+i)))(ho:okFound nb fr bl s.seq (found++b)=true)(k:Nat):logScan nb fr bl rd (k+1) i found s=logScan nb fr bl rd k (i+1) [] ⟨s.life,s.seq+1,i+1,aheadP s.ah (putsZ (found++b))⟩:=by
 conv=>lhs;unfold logScan
 unfold Says at h
 rw[h]
 simp only
 rw[if_neg (by omega),if_neg (by decide),if_pos trivial,if_pos ho]
def Here (L fr:Nat) (rd:Nat->List Int) (rs:List (Int×List Int)) (i:Nat):Prop:=∀(t:Nat) (r:Int×List Int),rs[t]?=some r->Says L r (rd (fr+1+(i+t)))
def Maybe (L fr:Nat) (rd:Nat->List Int) (rs:List (Int×List Int)) (i:Nat):Prop:=∀(t:Nat) (r:Int×List Int),rs[t]?=some r->Says L r (rd (fr+1+(i+t)))\/Other L (rd (fr+1+(i+t)))
theorem Here.cons{rd:Nat->List Int}{r:Int×List Int} :Here L fr rd (r :: rs) i ↔ Says L r (rd (fr+1+i))/\Here L fr rd rs (i+1):=by
 constructor
 ·intro h
  exact⟨h 0 r rfl,fun t q hq=>by have:=h (t+1) q (by simpa using hq);rwa [show i+(t+1)=i+1+t by omega]at this⟩
 ·rintro ⟨h1,h2⟩ t q hq
  cases t with
  | zero=>
   simp at hq
   subst hq
   exact h1
  | succ t=>rw[show i+(t+1)=i+1+t by omega];exact h2 t q (by simpa using hq)
theorem Maybe.cons{rd:Nat->List Int}{r:Int×List Int}(h:Maybe L fr rd (r :: rs) i):(Says L r (rd (fr+1+i))\/Other L (rd (fr+1+i)))/\Maybe L fr rd rs (i+1) :=
 ⟨h 0 r rfl,fun t q hq=>by have:=h (t+1) q (by simpa using hq);rwa [show i+(t+1)=i+1+t by omega]at this⟩
theorem Here.append{rd:Nat->List Int}{rs':List (Int×List Int)} :Here L fr rd (rs++rs') i ↔ Here L fr rd rs i/\Here L fr rd rs' (i+rs.length):=by
 induction rs generalizing i with
 | nil=>simp[Here]
 | cons r rs ih=>
  rw[List.cons_append,Here.cons,Here.cons,ih,List.length_cons,show i+(rs.length+1)=i+1+rs.length by omega,and_assoc]
theorem Maybe.append{rd:Nat->List Int}{rs':List (Int×List Int)}(h:Maybe L fr rd (rs++rs') i):Maybe L fr rd rs i/\Maybe L fr rd rs' (i+rs.length):=by
 induction rs generalizing i with
 | nil=>exact⟨fun t r hr=>by simp at hr,by simpa using h⟩
 | cons r rs ih=>
  obtain⟨h1,h2⟩:=Maybe.cons h
  obtain⟨h3,h4⟩:=ih h2
  refine⟨fun t q hq=>?_,by rw[List.length_cons,show i+(rs.length+1)=i+1+rs.length by omega];exact h4⟩
  cases t with
  | zero=>
   simp at hq
   subst hq
   exact h1
  | succ t=>rw[show i+(t+1)=i+1+t by omega];exact h3 t q (by simpa using hq)
theorem logScan_tx{rd:Nat->List Int}(q:List Int)(s:Js)(h0:s.life≠0):∀(ps:List (List Int)) (i:Nat) (found:List Int) (k:Nat),okFound nb fr bl s.seq (found++ps.flatten++q)=true->Maybe s.life fr rd (ps.map (fun p=>((3:Int),p))++[(4,q)]) i->ps.length+1<=k ->
  (Here s.life fr rd (ps.map (fun p=>((3:Int),p))++[(4,q)]) i/\logScan nb fr bl rd k i found s=logScan nb fr bl rd (k-(ps.length+1)) (i+(ps.length+1)) [] ⟨s.life,s.seq+1,i+(ps.length+1),aheadP s.ah (putsZ (found++ps.flatten++q))⟩) \/
  (¬Here s.life fr rd (ps.map (fun p=>((3:Int),p))++[(4,q)]) i/\logScan nb fr bl rd k i found s=s)
 | _,_,_,0,_,_,hk=>absurd hk (by omega)
 | [],i,found,k+1,ho,hm,_=>by
  obtain⟨h1,_⟩:=Maybe.cons hm
  simp only[List.flatten_nil,List.append_nil]at ho ⊢
  rcases h1 with h1 | h1
  ·exact .inl ⟨Here.cons.2 ⟨h1,fun t r hr=>by simp at hr⟩,logScan_last h0 h1 ho k⟩
  ·exact .inr ⟨fun h=>(Here.cons.1 h).1.not h1,logScan_other h1 _⟩
 | p :: ps,i,found,k+1,ho,hm,hk=>by
  obtain⟨h1,h2⟩:=Maybe.cons hm
  rcases h1 with h1 | h1
  ·have e:found++(p :: ps).flatten++q=(found++p)++ps.flatten++q:=by simp
   rw[e]at ho ⊢
   rcases logScan_tx q s h0 ps (i+1) (found++p) k ho h2 (by simp at hk;omega) with ⟨g1,g2⟩ | ⟨g1,g2⟩
   ·refine .inl ⟨Here.cons.2 ⟨h1,g1⟩,?_⟩
    rw[logScan_piece h0 h1,g2,List.length_cons,show k+1-(ps.length+1+1)=k-(ps.length+1) by omega,show i+(ps.length+1+1)=i+1+(ps.length+1) by omega]
   ·exact .inr ⟨fun h=>g1 (Here.cons.1 h).2,by rw[logScan_piece h0 h1,g2]⟩
  ·exact .inr ⟨fun h=>(Here.cons.1 h).1.not h1,logScan_other h1 _⟩
open Go.RowKit
abbrev Tn:=List (Nat×List Int)
def GoodT (nb fr bl:Nat) (t:Tn):Prop:=∀p∈t,p.1<nb/\homeC nb fr bl (p.1:Int)=0/\p.2.length=512/\Pl.isB p.2
def txRecs (t:Tn):List (Int×List Int):=recsZ (bytesZ t)
def wantsL (ts:List Tn):List (Int×List Int):=ts.flatMap txRecs
theorem wantsL_cons(t:Tn)(ts:List Tn):wantsL (t :: ts)=txRecs t++wantsL ts:=by simp[wantsL]
theorem wantsL_snoc(ts:List Tn)(t:Tn):wantsL (ts++[t])=wantsL ts++txRecs t:=by simp[wantsL]
def tPieces (t:Tn):List (List Int):=(List.range (pieceN (bytesZ t).length)).map fun i=>((bytesZ t).drop (497 * i)).take 497
def tLast (t:Tn):List Int:=(bytesZ t).drop (497 * pieceN (bytesZ t).length)
theorem txRecs_eq(t:Tn):txRecs t=(tPieces t).map (fun p=>((3:Int),p))++[(4,tLast t)]:=by
 unfold txRecs recsZ tPieces tLast
 rw[List.map_map]
 rfl
theorem txRecs_len(t:Tn):(txRecs t).length=(tPieces t).length+1:=by rw[txRecs_eq];simp
theorem tx_flat(t:Tn):([]:List Int)++(tPieces t).flatten++tLast t=bytesZ t:=by
 rw[List.nil_append]
 exact recs_flat (bytesZ t)
theorem GoodT.small{t:Tn}(h:GoodT nb fr bl t)(hn:nb<=524288):∀p∈t,p.1<16777216/\p.2.length=512:=fun p hp=>⟨by have:=(h p hp).1;omega,(h p hp).2.2.1⟩
theorem GoodT.puts{t:Tn}(h:GoodT nb fr bl t)(hn:nb<=524288):putsZ (bytesZ t)=t:=putsZ_bytesZ (h.small hn)
theorem GoodT.ok{t:Tn}(h:GoodT nb fr bl t)(hn:nb<=524288){seq:Nat}(hs:seq<1099511627776):okFound nb fr bl seq (bytesZ t)=true:=by
 unfold okFound
 rw[h.puts hn,length_bytesZ (fun p hp=>(h p hp).2.2.1)]
 have h1:(515 * t.length) % 515=0:=by omega
 have h2:((seq:Int)<1099511627776):=by omega
 rw[h1]
 simp only[decide_true,Bool.true_and,h2]
 rw[List.all_eq_true]
 intro p hp
 simp[(h p hp).2.1]
theorem GoodT.recs{t:Tn}(h:GoodT nb fr bl t):∀r∈txRecs t,(r.1=3\/r.1=4)/\r.2.length<=497/\Pl.isB r.2:=recs_ok (isB_bytesZ (fun p hp=>(h p hp).2.2.2))
theorem aheadP_append(ah:Nat->Option (List Int))(a b:Tn):aheadP ah (a++b)=aheadP (aheadP ah a) b:=by
 unfold aheadP
 rw[List.foldl_append]
theorem scan_begins{rd:Nat->List Int}(hnb:nb<=524288):∀(ts:List Tn) (i k:Nat) (s:Js),(∀t∈ts,GoodT nb fr bl t)->s.life≠0->s.used=i->s.seq+ts.length<=1099511627776->Maybe s.life fr rd (wantsL ts) i->(wantsL ts).length<=k ->
  (∀t,(wantsL ts).length<=t->t<k->Other s.life (rd (fr+1+(i+t)))) ->
  ∃n,n<=ts.length/\logScan nb fr bl rd k i [] s=⟨s.life,s.seq+n,i+(wantsL (ts.take n)).length,aheadP s.ah (ts.take n).flatten⟩/\Here s.life fr rd (wantsL (ts.take n)) i/\∀m,m<=ts.length->Here s.life fr rd (wantsL (ts.take m)) i->m<=n
 | [],i,k,s,_,h0,hu,_,_,_,ht=>by
  refine⟨0,Nat.le_refl _,?_,fun t r hr=>by simp[wantsL]at hr,fun m hm _=>hm⟩
  have e:logScan nb fr bl rd k i [] s=s:=by
   cases k with
   | zero=>rfl
   | succ k=>exact logScan_other (by have:=ht 0 (Nat.zero_le _) (by omega);rwa [Nat.add_zero]at this) _
  rw[e]
  obtain⟨a,b,c,d⟩:=s
  simp only at hu
  subst hu
  rfl
 | t :: ts,i,k,s,hg,h0,hu,hq,hm,hk,ht=>by
  rw[wantsL_cons]at hm hk ht
  rw[List.length_append]at hk ht
  obtain⟨m1,m2⟩:=Maybe.append hm
  have hgt:=hg t (by simp)
  have hok:=hgt.ok hnb (seq:=s.seq) (by simp at hq;omega)
  rw[<- tx_flat t]at hok
  have hl:=txRecs_len t
  rw[txRecs_eq]at m1
  rcases logScan_tx (nb:=nb) (bl:=bl) (tLast t) s h0 (tPieces t) i [] k hok m1 (by omega) with ⟨g1,g2⟩ | ⟨g1,g2⟩
  ·rw[tx_flat,hgt.puts hnb,<- hl]at g2
   obtain⟨n,n1,n2,n3,n4⟩:=scan_begins hnb ts (i+(txRecs t).length) (k-(txRecs t).length) ⟨s.life,s.seq+1,i+(txRecs t).length,aheadP s.ah t⟩ (fun x hx=>hg x (by simp[hx])) h0 rfl (by simp at hq ⊢;omega) m2 (by omega) (fun u hu1 hu2=>by
    have:=ht ((txRecs t).length+u) (by omega) (by omega)
    rwa [<- Nat.add_assoc i]at this)
   have hw:∀n,wantsL ((t :: ts).take (n+1))=txRecs t++wantsL (ts.take n):=fun n=>by rw[List.take_succ_cons,wantsL_cons]
   refine⟨n+1,by simp;omega,?_,?_,fun m hm2 hh=>?_⟩
   ·rw[g2,n2,hw,List.length_append,List.take_succ_cons,List.flatten_cons,aheadP_append]
    simp only[Js.mk.injEq,true_and,and_true]
    omega
   ·rw[hw]
    exact Here.append.2 ⟨by rw[txRecs_eq];exact g1,n3⟩
   ·cases m with
    | zero=>exact Nat.zero_le _
    | succ m=>
     rw[hw]at hh
     have:=n4 m (by simpa using hm2) (Here.append.1 hh).2
     omega
  ·refine⟨0,Nat.zero_le _,?_,fun u r hr=>by simp[wantsL]at hr,fun m hm2 hh=>?_⟩
   ·rw[g2]
    obtain⟨a,b,c,d⟩:=s
    simp only at hu
    subst hu
    rfl
   ·cases m with
    | zero=>exact Nat.le_refl _
    | succ m=>
     rw[List.take_succ_cons,wantsL_cons]at hh
     have:=(Here.append.1 hh).1
     rw[txRecs_eq]at this
     exact absurd this g1
open Go.RowKit
def HomeB (nb fr bl x:Nat):Prop:=x<nb/\¬(fr<=x/\x<fr+bl)
def after (base:Nat->List Int) (ts:List Tn) (x:Nat):List Int:=(aheadP (fun _=>none) ts.flatten x).getD (base x)
def OldAt (fr bl l:Nat) (v:List Int):Prop:=Old fr bl (if l=0 then 1099511627777 else l) v
structure Hd (P:Nat->List Int->Prop) (nb fr bl l q:Nat) (base:Nat->List Int) (ts ex:List Tn) (k:Nat):Prop where
 life:l<=1099511627776
 seq:q+(ts++ex).length<=1099511627776
 good:∀t∈ts++ex,GoodT nb fr bl t
 zero:l=0->ts++ex=[]
 fit:(wantsL (ts++ex)).length+1<=bl
 kle:k<=ts.length
 log:∀i,i<bl-1->∀v,P (fr+1+i) v->(∃r,(wantsL (ts++ex))[i]?=some r/\v=stampZ r.1 (l:Int) r.2)\/OldAt fr bl l v
 dur:∀i,i<(wantsL (ts.take k)).length->∀v,P (fr+1+i) v->∃r,(wantsL (ts++ex))[i]?=some r/\v=stampZ r.1 (l:Int) r.2
 home:∀x,HomeB nb fr bl x->∀v,P x v->v=base x\/(k=ts.length/\v=after base ts x)
 stop:ex=[]\/∃t0 ex' i,ex=t0 :: ex'/\i<(wantsL (ts++[t0])).length/\∀v,P (fr+1+i) v->OldAt fr bl l v
theorem wantsL_ok{ts:List Tn}(h:∀t∈ts,GoodT nb fr bl t):∀r∈wantsL ts,(r.1=3\/r.1=4)/\r.2.length<=497/\Pl.isB r.2:=by
 intro r hr
 obtain⟨t,ht,hr⟩:=List.mem_flatMap.1 hr
 exact (h t ht).recs r hr
theorem says_stamp{r:Int×List Int}(hl:l<=1099511627776)(h:(r.1=3\/r.1=4)/\r.2.length<=497/\Pl.isB r.2):Says l r (stampZ r.1 (l:Int) r.2) :=
 unZ_stampZ (by omega) ⟨by omega,by omega⟩ h.2.1 (isB_bare (by omega) h.2.2)
theorem logScan_zero{rd:Nat->List Int}{found:List Int}{s:Js}(h:s.life=0)(k:Nat):logScan nb fr bl rd k i found s=s:=by
 cases k with
 | zero=>rfl
 | succ k=>
  unfold logScan
  cases hu:unZ (rd (fr+1+i)) with
  | none=>rfl
  | some r=>
   obtain⟨kd,l,c⟩:=r
   simp only
   rw[if_pos (by omega)]
theorem take_get{a b:List α}(hab:∃c,b=a++c)(hi:i<a.length):b[i]?=a[i]?:=by
 obtain⟨c,rfl⟩:=hab
 exact List.getElem?_append_left hi
theorem wantsL_take(ts:List Tn)(k:Nat):∃c,wantsL ts=wantsL (ts.take k)++c:=⟨wantsL (ts.drop k),by unfold wantsL;rw[<- List.flatMap_append,List.take_append_drop]⟩
theorem oldAt_other{v:List Int}(hl0:l≠0)(e:OldAt fr bl l v):Other l v:=fun kd l' c hu=>by
 unfold OldAt at e
 rw[if_neg hl0]at e
 exact e.not hl0 hu
theorem Hd.found{P:Nat->List Int->Prop}{base:Nat->List Int}{ts ex:List Tn}(h:Hd P nb fr bl l q base ts ex k)(hnb:nb<=524288)(hbl:fr+bl<=nb){rd:Nat->List Int}(hrd:∀x,x<nb->P x (rd x)) :
  ∃n,k<=n/\n<=ts.length/\logScan nb fr bl rd (bl-1) 0 [] ⟨l,q,0,fun _=>none⟩=⟨l,q+n,(wantsL (ts.take n)).length,aheadP (fun _=>none) (ts.take n).flatten⟩ /\
   (∀i,(wantsL (ts.take n)).length<=i->i<bl-1->otherAt fr bl l rd i=false)/\(∀x,HomeB nb fr bl x->(aheadP (fun _=>none) (ts.take n).flatten x).getD (rd x)=after base (ts.take n) x) /\
   Hd (fun x v=>v=rd x) nb fr bl l q base (ts.take n) ((ts++ex).drop n) n:=by
 have hP:∀i,i<bl-1->P (fr+1+i) (rd (fr+1+i)):=fun i hi=>hrd _ (by omega)
 have hfit:=h.fit
 have hno:∀i,i<bl-1->otherAt fr bl l rd i=false:=fun i hi=>by
  unfold otherAt
  rcases h.log i hi _ (hP i hi) with ⟨r,hr,e⟩ | e
  ·have ho:=wantsL_ok h.good r (List.mem_of_getElem? hr)
   rw[e,rec_foreign ho.1 h.life ho.2.1 ho.2.2,Bool.and_false]
  ·unfold OldAt at e
   by_cases hl0:l=0
   ·subst hl0
    rw[if_pos rfl]at e
    have:=e.foreign
    have h2:foreign 0 (rd (fr+1+i))=true->foreign 1099511627777 (rd (fr+1+i))=true:=by
     intro q
     unfold foreign at q ⊢
     simp[toCome]at q
     simp[q]
    cases hf:foreign 0 (rd (fr+1+i)) with
    | false=>rw[Bool.and_false]
    | true=>
     rw[h2 hf]at this
     exact this
   ·rw[if_neg hl0]at e
    exact e.foreign
 have hhome:∀n,k<=n->n<=ts.length->∀x,HomeB nb fr bl x->(aheadP (fun _=>none) (ts.take n).flatten x).getD (rd x)=after base (ts.take n) x:=fun n h1 h2 x hx=>by
  rcases h.home x hx _ (hrd x hx.1) with e | ⟨e1,e2⟩
  ·rw[e];rfl
  ·have:ts.take n=ts:=List.take_of_length_le (by omega)
   rw[this,e2]
   unfold after
   cases aheadP (fun _=>none) ts.flatten x with
   | none=>rfl
   | some v=>rfl
 have htk:∀n,n<=ts.length->(ts++ex).take n=ts.take n:=fun n hn=>List.take_append_of_le_length hn
 have hall:∀n,n<=ts.length->ts.take n++(ts++ex).drop n=ts++ex:=fun n hn=>by rw[<- htk n hn,List.take_append_drop]
 have hag:∀n,k<=n->n<=ts.length->Here l fr rd (wantsL (ts.take n)) 0->(∀t0 ex',(ts++ex).drop n=t0 :: ex'->¬Here l fr rd (wantsL (ts.take n++[t0])) 0)->Hd (fun x v=>v=rd x) nb fr bl l q base (ts.take n) ((ts++ex).drop n) n:=fun n h1 h2 hh hm=>by
  have ha:=hall n h2
  have hlog:∀i,i<bl-1->∀v,v=rd (fr+1+i)->(∃r,(wantsL (ts++ex))[i]?=some r/\v=stampZ r.1 (l:Int) r.2)\/OldAt fr bl l v:=fun i hi v e=>by rw[e];exact h.log i hi _ (hP i hi)
  obtain⟨c,hc⟩:=wantsL_take (ts++ex) n
  rw[htk n h2]at hc
  refine⟨h.life,by rw[ha];exact h.seq,by rw[ha];exact h.good,by rw[ha];exact h.zero,by rw[ha];exact h.fit,by rw[List.length_take];omega,by rw[ha];exact hlog,fun i hi v e=>?_,fun x hx v e=>?_,?_⟩
  ·rw[List.take_take,Nat.min_self]at hi
   rw[ha]
   have hi2:i<(wantsL (ts++ex)).length:=by rw[hc,List.length_append];omega
   rcases hlog i (by omega) v e with q | q
   ·exact q
   ·exfalso
    have hs:=hh i _ (List.getElem?_eq_getElem hi)
    rw[Nat.zero_add,<- e]at hs
    by_cases hl0:l=0
    ·have:=h.zero hl0
     rw[this]at hi2
     exact absurd hi2 (by simp[wantsL])
    ·exact hs.not (oldAt_other hl0 q)
  ·rcases h.home x hx _ (hrd x hx.1) with e2 | ⟨e1,e2⟩
   ·exact .inl (e.trans e2)
   ·refine .inr ⟨by rw[List.length_take];omega,?_⟩
    rw[List.take_of_length_le (by omega)]
    exact e.trans e2
  ·cases hd:(ts++ex).drop n with
   | nil=>exact .inl rfl
   | cons t0 ex'=>
    refine .inr ⟨t0,ex',?_⟩
    have hn:=hm t0 ex' hd
    have:∃i r,(wantsL (ts.take n++[t0]))[i]?=some r/\¬Says l r (rd (fr+1+(0+i))):=Classical.byContradiction fun q=>hn (fun i r hr=>Classical.byContradiction fun q2=>q ⟨i,r,hr,q2⟩)
    obtain⟨i,r,hr,hs⟩:=this
    have hi:=(List.getElem?_eq_some_iff.1 hr).1
    refine⟨i,rfl,hi,fun v e=>?_⟩
    have hw:∃c,wantsL (ts++ex)=wantsL (ts.take n++[t0])++c:=⟨wantsL ex',by
     rw[<- ha,hd]
     unfold wantsL
     rw[<- List.flatMap_append,List.append_assoc]
     rfl⟩
    have hi2:i<(wantsL (ts++ex)).length:=by
     obtain⟨c,hc⟩:=hw
     rw[hc,List.length_append]
     omega
    rcases hlog i (by omega) v e with ⟨r',hr',e'⟩ | q
    ·exfalso
     rw[take_get hw hi,hr]at hr'
     cases hr'
     refine hs ?_
     rw[Nat.zero_add,<- e,e']
     exact says_stamp h.life (wantsL_ok h.good r (List.mem_of_getElem? (by rw[take_get hw hi];exact hr)))
    ·exact q
 by_cases hl0:l=0
 ·have ht:=h.zero hl0
  have ht1:ts=[]:=(List.append_eq_nil_iff.1 ht).1
  have ht2:ex=[]:=(List.append_eq_nil_iff.1 ht).2
  subst ht1
  subst ht2
  have hk:=h.kle
  refine⟨0,hk,Nat.zero_le _,?_,fun i _ hi=>hno i hi,hhome 0 hk (Nat.zero_le _),hag 0 hk (Nat.zero_le _) (fun t r hr=>by simp[wantsL]at hr) (fun t0 ex' e=>by simp at e)⟩
  rw[logScan_zero hl0]
  rfl
 ·obtain⟨n,n1,n2,n3,n4⟩:=scan_begins (nb:=nb) (fr:=fr) (bl:=bl) (rd:=rd) hnb (ts++ex) 0 (bl-1) ⟨l,q,0,fun _=>none⟩ h.good hl0 rfl h.seq (fun t r hr=>by
   have ht:=(List.getElem?_eq_some_iff.1 hr).1
   rw[Nat.zero_add]
   rcases h.log t (by omega) _ (hP t (by omega)) with ⟨r',hr',e⟩ | e
   ·rw[hr]at hr'
    cases hr'
    rw[e]
    exact .inl (says_stamp h.life (wantsL_ok h.good r (List.mem_of_getElem? hr)))
   ·exact .inr (oldAt_other hl0 e)) (by omega) (fun t h1 h2=>by
   rw[Nat.zero_add]
   rcases h.log t h2 _ (hP t h2) with ⟨r',hr',_⟩ | e
   ·have:=(List.getElem?_eq_some_iff.1 hr').1
    omega
   ·exact oldAt_other hl0 e)
  have hkt:=h.kle
  have hkn:k<=n:=n4 k (by rw[List.length_append];omega) (fun t r hr=>by
   rw[htk k hkt]at hr
   have ht:=(List.getElem?_eq_some_iff.1 hr).1
   obtain⟨c,hc⟩:=wantsL_take (ts++ex) k
   rw[htk k hkt]at hc
   have hle:(wantsL (ts.take k)).length<=(wantsL (ts++ex)).length:=by rw[hc,List.length_append];omega
   obtain⟨r',hr',e⟩:=h.dur t ht _ (hP t (by omega))
   rw[take_get ⟨c,hc⟩ ht,hr]at hr'
   cases hr'
   rw[Nat.zero_add,e]
   exact says_stamp h.life (wantsL_ok h.good r (by rw[hc];exact List.mem_append_left _ (List.mem_of_getElem? hr))))
  have hnt:n<=ts.length:=by
   rcases h.stop with e | ⟨t0,ex',i,e,hi,ho⟩
   ·subst e
    simpa using n1
   ·refine Nat.le_of_not_lt fun hlt=>?_
    have hh:Here l fr rd (wantsL (ts++[t0])) 0:=by
     have e2:(ts++ex).take n=ts++[t0]++((ts++ex).drop (ts.length+1)).take (n-(ts.length+1)):=by
      rw[e]
      have:ts++t0 :: ex'=(ts++[t0])++ex':=by simp
      rw[this,List.take_append,List.take_of_length_le (by simp;omega),List.drop_left' (by simp)]
      simp
     rw[e2]at n3
     unfold wantsL at n3 ⊢
     rw[List.flatMap_append]at n3
     exact (Here.append.1 n3).1
    have hs:=hh i _ (List.getElem?_eq_getElem hi)
    rw[Nat.zero_add]at hs
    have hi2:i<bl-1:=by
     have:(wantsL (ts++ex)).length=(wantsL (ts++[t0])).length+(wantsL ex').length:=by
      rw[e]
      have:ts++t0 :: ex'=(ts++[t0])++ex':=by simp
      rw[this]
      unfold wantsL
      rw[List.flatMap_append,List.length_append]
     omega
    exact hs.not (oldAt_other hl0 (ho _ (hP i hi2)))
  rw[htk n hnt]at n2 n3
  refine⟨n,hkn,hnt,?_,fun i _ hi=>hno i hi,hhome n hkn hnt,hag n hkn hnt n3 (fun t0 ex' e hh=>?_)⟩
  ·rw[n2,Nat.zero_add]
  ·have hle:n+1<=(ts++ex).length:=by
    have:=congrArg List.length e
    rw[List.length_drop,List.length_cons]at this
    omega
   have e3:(ts++ex).take (n+1)=ts.take n++[t0]:=by
    rw[List.take_add,htk n hnt,e]
    rfl
   have:=n4 (n+1) hle (by rw[e3];exact hh)
   omega
end Go.Proofs.YthfojpcibnfmgaaGreat
